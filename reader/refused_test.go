package reader_test

import (
	"math"
	"slices"
	"strconv"
	"strings"
	"testing"

	"gatehouse/api"
	"gatehouse/reader"
)

// 23.3, 23.5: loads that are refused, and the accesses that count as they come

// wayOf are the accesses of a machine in the slot 0 of the chapter's site, from its first step to its last.
func wayOf(flaw int, version bool) []string {
	way := "1 4=1 0 10 " + throughPage + " 4=0"
	if version {
		way = "1 4=1 0 10 4=0"
	}
	if flaw == api.FlawLate {
		way = strings.Replace(way, "1 4=1 0 ", "0 1 4=1 ", 1)
	}
	return strings.Fields(way)
}

// pointOf is which of its steps loads the current word.
func pointOf(flaw int) int { return slices.Index(wayOf(flaw, true), "0") }

// known is what a machine of the chapter's site knows once these loads were made.
func known(loaded []string) reader.Answer {
	var a reader.Answer
	if slices.Contains(loaded, "0") {
		a.Page = 10
	}
	if slices.Contains(loaded, "10") {
		a.Version = 5
	}
	return a
}

// machineOf is a check with a cache, or a version.
func machineOf(t *testing.T, s *reader.Site, version bool) *reader.Machine {
	t.Helper()
	if version {
		return versionOf(t, s, 0)
	}
	return openDoor(t, s, cacheOf(t, 1, 1))
}

// Each load behind the section's is refused in its turn, its word being poisoned just ahead of it: the machine is broken at once, and what the load brought is not taken.
func TestEachLoadOfAPoisonedWord(t *testing.T) {
	for _, flaw := range flaws() {
		for _, version := range []bool{false, true} {
			way := wayOf(flaw, version)
			for i, access := range way {
				if access == "1" || strings.Contains(access, "=") {
					continue
				}
				s := flawed(t, flaw)
				x := machineOf(t, s, version)
				wantSteps(t, s.Memory, x, 0, strings.Join(way[:i], " "))
				addr, _ := strconv.Atoi(access)
				s.Memory.Poison(addr, 1)
				wantSteps(t, s.Memory, x, i, access)
				want := known(way[:i])
				want.Broken = true
				wantTold(t, s.Memory, x, pointOf(flaw), want)
				wantRun(t, s.Memory, x, i+1, "4=0")
				wantTold(t, s.Memory, x, pointOf(flaw), want)
				if t.Failed() {
					t.Fatalf("flaw %d, version: %v, the load of %s", flaw, version, access)
				}
			}
		}
	}
}

// The same with words that were poisoned from the beginning, and no cache that is told.
func TestPoisonedFromTheBeginning(t *testing.T) {
	for _, flaw := range flaws() {
		way := wayOf(flaw, false)
		for i, access := range way {
			if access == "1" || strings.Contains(access, "=") {
				continue
			}
			s, c := flawed(t, flaw), cacheOf(t, 1, 1)
			addr, _ := strconv.Atoi(access)
			s.Memory.Poison(addr, 1)
			x := openDoor(t, s, c)
			accesses := append(slices.Clone(way[:i+1]), "4=0")
			wantRun(t, s.Memory, x, 0, strings.Join(accesses, " "))
			want := known(way[:i])
			want.Broken = true
			wantTold(t, s.Memory, x, pointOf(flaw), want)
			misses := 0
			if want.Version != 0 {
				misses = 1
			}
			wantStats(t, c, 0, misses, 0, 0)
			if t.Failed() {
				t.Fatalf("flaw %d, the load of %s", flaw, access)
			}
		}
	}
}

// Late, and the current word is refused: the section's two steps are not made; the slot is cleared all the same.
func TestLateWithoutACurrentWord(t *testing.T) {
	for _, version := range []bool{false, true} {
		for _, current := range []int{-1, 40, 41, math.MaxInt, math.MinInt, 0} {
			s := flawed(t, api.FlawLate)
			s.Current = current
			s.Memory.Poison(0, 1)
			set(s.Memory, slotsAt, 77)
			x := machineOf(t, s, version)
			wantRun(t, s.Memory, x, 5, numbers(current)+" 4=0")
			wantTold(t, s.Memory, x, 5, reader.Answer{Broken: true})
		}
	}
}

// The current word lies outside of the memory.
func TestCurrentOutside(t *testing.T) {
	for _, flaw := range flaws() {
		for _, current := range []int{-1, -2, 40, 41, 1 << 32, 1 << 62, api.Poison, math.MaxInt, math.MinInt} {
			for _, version := range []bool{false, true} {
				s := flawed(t, flaw)
				s.Current = current
				x := machineOf(t, s, version)
				ahead := strings.Join(wayOf(flaw, version)[:pointOf(flaw)], " ")
				wantRun(t, s.Memory, x, 0, ahead+" "+numbers(current)+" 4=0")
				wantTold(t, s.Memory, x, pointOf(flaw), reader.Answer{Broken: true})
				if t.Failed() {
					t.Fatalf("flaw %d, Current %d", flaw, current)
				}
			}
		}
	}
}

// The page's address lies outside of the memory: it is told, as it was loaded.
func TestAPageOutside(t *testing.T) {
	for _, flaw := range flaws() {
		for _, p := range []int{-1, -2, 40, 41, 65536, 1 << 32, 1 << 62, api.Poison + 1, api.Poison - 1, math.MaxInt, math.MaxInt - 1, math.MinInt} {
			for _, version := range []bool{false, true} {
				s := flawed(t, flaw)
				set(s.Memory, 0, p)
				x := machineOf(t, s, version)
				wantRun(t, s.Memory, x, 0, strings.Join(wayOf(flaw, version)[:3], " ")+" "+numbers(p)+" 4=0")
				wantTold(t, s.Memory, x, pointOf(flaw), reader.Answer{Broken: true, Page: p})
				if t.Failed() {
					t.Fatalf("flaw %d, the page at %d", flaw, p)
				}
			}
		}
	}
}

// The page's words end where the memory ends, each of them in its turn: the load of the first one that is not there breaks the check.
func TestAPageThatIsCutOff(t *testing.T) {
	for _, flaw := range flaws() {
		broken := map[string]bool{}
		for size := pageAt + 1; size <= pageAt+len(laid()); size++ {
			s := siteOf(t, size, laid()[:size-pageAt]...)
			s.Flaw = flaw
			way, want := wayOf(flaw, false), reader.Answer{Allowed: true, Version: 5, Page: 10}
			cut := slices.IndexFunc(way, func(access string) bool {
				addr, e := strconv.Atoi(access)
				return e == nil && addr >= size
			})
			if cut >= 0 {
				broken[way[cut]] = true
				way, want = append(way[:cut+1], "4=0"), reader.Answer{Broken: true, Version: 5, Page: 10}
			}
			x := openDoor(t, s, nil)
			wantRun(t, s.Memory, x, 0, strings.Join(way, " "))
			wantTold(t, s.Memory, x, pointOf(flaw), want)
			y := versionOf(t, s, 0)
			wantRun(t, s.Memory, y, 0, strings.Join(wayOf(flaw, true), " "))
			wantTold(t, s.Memory, y, pointOf(flaw), reader.Answer{Version: 5, Page: 10})
		}
		if len(broken) != 4 || t.Failed() { // of the words 11, 28, 29 and 30: all others lie ahead of one that is loaded earlier
			t.Fatalf("flaw %d: %v", flaw, broken)
		}
	}
}

// Searches that run out of the memory: the object's, the action's, their keys and their numbers.
func TestASearchThatRunsOut(t *testing.T) {
	for kind := 1; kind <= 3; kind++ {
		words := table(4096, 1)
		for k := 1; k <= 3; k++ {
			put(words, hashed(annDoorOpen[k-1], k), keyOf(annDoorOpen[k-1], k), 1)
		}
		last := at(hashed(annDoorOpen[kind-1], kind))
		for _, size := range []int{last, last + 1} {
			s := siteOf(t, size, words[:size-pageAt]...)
			var accesses []int
			for k := 1; k <= 3; k++ {
				key := at(hashed(annDoorOpen[k-1], k))
				if accesses = append(accesses, key); key >= size {
					break
				}
				if accesses = append(accesses, key+1); key+1 >= size {
					break
				}
			}
			x := openDoor(t, s, nil)
			wantRun(t, s.Memory, x, 0, toTable+numbers(accesses...)+" 4=0")
			wantTold(t, s.Memory, x, 2, reader.Answer{Broken: true, Version: 5, Page: 10})
		}
	}
}

// hashed is where the search for a symbol begins in a table of 4096 places.
func hashed(symbol, kind int) int { return (symbol*4 + kind) * 40503 % 65536 % 4096 }

// A page of which one word is there, the memory's last one.
func TestAPageAtTheLastWord(t *testing.T) {
	s := siteOf(t, 40)
	set(s.Memory, 0, 39)
	set(s.Memory, 39, 5)
	x := openDoor(t, s, nil)
	wantRun(t, s.Memory, x, 0, "1 4=1 0 39 40 4=0")
	wantTold(t, s.Memory, x, 2, reader.Answer{Broken: true, Version: 5, Page: 39})
}

// The section's two accesses and the last store count as they come.
func TestTheSectionAndTheEndCountAsTheyCome(t *testing.T) {
	for _, flaw := range []int{0, api.FlawTag, api.FlawLate} {
		for _, version := range []bool{false, true} {
			want, point := reader.Answer{Allowed: !version, Version: 5, Page: 10}, pointOf(flaw)
			way := strings.Join(wayOf(flaw, version), " ")

			s := flawed(t, flaw) // no slot
			s.Memory.Poison(slotsAt, 1)
			x := machineOf(t, s, version)
			wantRun(t, s.Memory, x, 0, way)
			wantTold(t, s.Memory, x, point, want)

			s = flawed(t, flaw) // no epoch: what is loaded poisons the slot, so that it is not cleared
			s.Memory.Poison(epochAt, 1)
			x = machineOf(t, s, version)
			wantRun(t, s.Memory, x, 0, strings.Replace(way, "4=1", "4="+numbers(poison), 1))
			wantTold(t, s.Memory, x, point, want)
			if words := allWords(t, s.Memory); words[slotsAt] != poison {
				t.Errorf("the slot holds %d", words[slotsAt])
			}

			s = flawed(t, flaw) // the slot goes while the section goes on
			x = machineOf(t, s, version)
			wantSteps(t, s.Memory, x, 0, strings.Join(wayOf(flaw, version)[:4], " "))
			s.Memory.Poison(slotsAt, 1)
			wantRun(t, s.Memory, x, 4, strings.Join(wayOf(flaw, version)[4:], " "))
			wantTold(t, s.Memory, x, point, want)
			if t.Failed() {
				t.Fatalf("flaw %d, version: %v", flaw, version)
			}
		}
	}
}

// The mark is the epoch as it was loaded.
func TestAnyEpoch(t *testing.T) {
	for _, now := range corners() {
		for _, version := range []bool{false, true} {
			s := small(t)
			set(s.Memory, epochAt, now)
			x := machineOf(t, s, version)
			wantSteps(t, s.Memory, x, 0, "1")
			set(s.Memory, epochAt, 99)
			wantSteps(t, s.Memory, x, 1, "4="+numbers(now))
			wantRun(t, s.Memory, x, 2, strings.Join(wayOf(0, version)[2:], " "))
		}
	}
}
