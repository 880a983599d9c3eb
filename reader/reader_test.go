package reader_test

import (
	"fmt"
	"math"
	"slices"
	"strconv"
	"strings"
	"testing"

	"gatehouse/api"
	"gatehouse/avc"
	"gatehouse/cells"
	"gatehouse/epoch"
	"gatehouse/reader"
)

// The memory of most tests: the word 0 is the current one, the word 1 the epoch's, the slots' are the words from 4 on, and the page lies at 10.
const epochAt, slotsAt, pageAt = 1, 4, 10

const poison = api.Poison

// laid is the page of chapter 12's example: version 5; open is 1, ann 2, door 3.
func laid() []int {
	return []int{5, 8, 1, 1, 0, 0, 7, 1, 14, 1, 0, 0, 0, 0, 0, 0, 0, 0, 9, 1, 1}
}

// The whole of the checks of ann, door, open there, but for its first two steps and its last one.
const throughPage = "11 28 29 18 19 16 17 13 30"

func fresh(t *testing.T, n int) *cells.Memory {
	t.Helper()
	m, e := cells.New(n)
	if e != api.OK {
		t.Fatalf("cells.New(%d): %v", n, e)
	}
	return m
}

func over(t *testing.T, m *cells.Memory, n int) *epoch.Slots {
	t.Helper()
	s, e := epoch.New(m, epochAt, slotsAt, n)
	if e != api.OK {
		t.Fatalf("epoch.New: %v", e)
	}
	return s
}

func cacheOf(t *testing.T, sets, ways int) *avc.Cache {
	t.Helper()
	c, e := avc.New(sets, ways)
	if e != api.OK {
		t.Fatalf("avc.New(%d, %d): %v", sets, ways, e)
	}
	return c
}

// set writes words from an address on, poisoned ones too.
func set(m *cells.Memory, addr int, words ...int) {
	m.Clear(addr, len(words))
	for i, word := range words {
		if word != 0 {
			m.Store(addr+i, word)
		}
	}
}

// siteOf has so many words and two slots, and these words from 10 on; the epoch is 1.
func siteOf(t *testing.T, size int, page ...int) *reader.Site {
	t.Helper()
	m := fresh(t, size)
	set(m, 0, pageAt, 1)
	set(m, pageAt, page...)
	return &reader.Site{Memory: m, Slots: over(t, m, 2)}
}

// small is the site of the chapter's examples.
func small(t *testing.T) *reader.Site {
	t.Helper()
	return siteOf(t, 40, laid()...)
}

// flawed is the same with a flaw.
func flawed(t *testing.T, flaw int) *reader.Site {
	t.Helper()
	s := small(t)
	s.Flaw = flaw
	return s
}

func allWords(t *testing.T, m *cells.Memory) []int {
	t.Helper()
	words, e := m.Words(0, m.Len())
	if e != api.OK {
		t.Fatalf("Words: %v", e)
	}
	return words
}

// made asks that there is a machine.
func made(t *testing.T, m *reader.Machine) *reader.Machine {
	t.Helper()
	if m == nil {
		t.Fatal("there is no machine")
	}
	return m
}

func checkOf(t *testing.T, s *reader.Site, slot int, c *avc.Cache, subject, object, action int) *reader.Machine {
	t.Helper()
	return made(t, reader.Check(s, slot, c, subject, object, action))
}

// openDoor is the check of ann, door, open in the slot 0.
func openDoor(t *testing.T, s *reader.Site, c *avc.Cache) *reader.Machine {
	t.Helper()
	return checkOf(t, s, 0, c, 2, 3, 1)
}

func versionOf(t *testing.T, s *reader.Site, slot int) *reader.Machine {
	t.Helper()
	return made(t, reader.Version(s, slot))
}

// Accesses are written "1 4=1 0": a load of the word 1, a store of 1 into the word 4, a load of the word 0. What a load brings, what stood where a store goes, and whether they are refused, the memory's words tell.
func entry(t *testing.T, m *cells.Memory, text string) api.Access {
	t.Helper()
	left, right, stores := strings.Cut(text, "=")
	addr, e := strconv.Atoi(left)
	if e != nil {
		t.Fatal(e)
	}
	was := 0
	words, outside := m.Words(addr, 1)
	if outside == api.OK {
		was = words[0]
	}
	good := outside == api.OK && was != api.Poison
	if !stores {
		return api.Access{Kind: api.AccessLoad, Addr: addr, Value: was, Good: good}
	}
	value, e := strconv.Atoi(right)
	if e != nil {
		t.Fatal(e)
	}
	return api.Access{Kind: api.AccessStore, Addr: addr, Value: value, Old: was, Good: good}
}

// wantStep asks for one step, which is this access.
func wantStep(t *testing.T, m *cells.Memory, x *reader.Machine, now int, last bool, access string) {
	t.Helper()
	wantRow(t, m, x, now, last, []string{access})
}

// wantRow asks for steps, each of which is one access; the trace is looked at behind them all.
func wantRow(t *testing.T, m *cells.Memory, x *reader.Machine, from int, last bool, accesses []string) {
	t.Helper()
	want, bad := m.Trace(), m.Bad()
	was := len(want)
	for i, access := range accesses {
		want = append(want, entry(t, m, access))
		if !want[was+i].Good {
			bad++
		}
		if got := x.Step(from + i); got != (last && i == len(accesses)-1) {
			t.Errorf("Step(%d), %s: %v", from+i, access, got)
		}
	}
	if got := m.Trace(); !slices.Equal(got, want) {
		t.Fatalf("Step(%d): behind %d accesses come %v, want %v", from, was, got[min(was, len(got)):], want[was:])
	}
	if m.Bad() != bad {
		t.Errorf("Step(%d): %d accesses were refused, want %d", from, m.Bad(), bad)
	}
}

// wantSteps asks for these accesses, none of which is the last step; the first one's moment is given. The trace is looked at behind each of them, in the midst of long rows behind each thirtieth.
func wantSteps(t *testing.T, m *cells.Memory, x *reader.Machine, from int, accesses string) {
	t.Helper()
	list := strings.Fields(accesses)
	for i := 0; i < len(list); {
		n := 1
		if i > 30 && len(list)-i > 60 {
			n = 30
		}
		wantRow(t, m, x, from+i, false, list[i:i+n])
		i += n
	}
}

// wantRun asks for all accesses from here to the end, and that nothing comes behind it.
func wantRun(t *testing.T, m *cells.Memory, x *reader.Machine, from int, accesses string) {
	t.Helper()
	list := strings.Fields(accesses)
	wantSteps(t, m, x, from, strings.Join(list[:len(list)-1], " "))
	wantStep(t, m, x, from+len(list)-1, true, list[len(list)-1])
	wantOver(t, m, x)
}

// wantOver asks that no step is left.
func wantOver(t *testing.T, m *cells.Memory, x *reader.Machine) {
	t.Helper()
	trace, words, bad, point, answer := m.Trace(), allWords(t, m), m.Bad(), x.Point(), x.Answer()
	for _, now := range []int{0, -1, 99, math.MinInt, math.MaxInt} {
		if !x.Step(now) {
			t.Errorf("Step(%d) behind the last step: false", now)
		}
	}
	if !slices.Equal(m.Trace(), trace) || !slices.Equal(allWords(t, m), words) || m.Bad() != bad {
		t.Error("something was done behind the last step")
	}
	if x.Point() != point || x.Answer() != answer {
		t.Errorf("behind the last step: %d, %+v, want %d, %+v", x.Point(), x.Answer(), point, answer)
	}
}

// wantTold asks for the point and the answer; asking changes nothing.
func wantTold(t *testing.T, m *cells.Memory, x *reader.Machine, point int, want reader.Answer) {
	t.Helper()
	trace, words := m.Trace(), allWords(t, m)
	for range 2 {
		if got := x.Answer(); got != want {
			t.Errorf("Answer() = %+v, want %+v", got, want)
		}
		if got := x.Point(); got != point {
			t.Errorf("Point() = %d, want %d", got, point)
		}
	}
	if !slices.Equal(m.Trace(), trace) || !slices.Equal(allWords(t, m), words) {
		t.Error("asking has changed something")
	}
}

func wantStats(t *testing.T, c *avc.Cache, hits, misses, evictions, held int) {
	t.Helper()
	if got, want := c.Stats(), (api.Stats{Hits: hits, Misses: misses, Evictions: evictions, Held: held}); got != want {
		t.Errorf("the cache's Stats() = %+v, want %+v", got, want)
	}
}

// numbers are written one behind the other.
func numbers(list ...int) string { return strings.Trim(fmt.Sprint(list), "[]") }

// dice throws numbers, always the same ones.
type dice uint64

func (d *dice) throw(n int) int {
	*d = *d*6364136223846793005 + 1442695040888963407
	return int(uint64(*d>>33) % uint64(n))
}

func of[T any](d *dice, things []T) T { return things[d.throw(len(things))] }

// corners are ints at which something might change.
func corners() []int {
	return []int{0, 1, -1, 2, -2, 3, 7, 1 << 31, -1 << 31, 1 << 61, 1<<61 - 1, -1 << 61, 1 << 62, 1<<62 + 1, math.MaxInt, math.MaxInt - 1, math.MinInt, math.MinInt + 1, api.Poison - 1, api.Poison + 1, api.Poison}
}

// flaws are those that make a difference, and numbers that are as 0.
func flaws() []int {
	return []int{api.FlawNone, api.FlawNoWait, api.FlawTag, api.FlawEarly, api.FlawLate, api.FlawNoLock, api.FlawEarlyDone, 7, -1, -2, -4, 1 << 32, math.MaxInt, math.MinInt}
}

// The chapter's examples, in their order.
func TestTheExamplesOfTheChapter(t *testing.T) {
	s := small(t)
	m := s.Memory
	if reader.Check(s, 2, nil, 2, 3, 1) != nil {
		t.Error("there is no slot 2")
	}
	x := openDoor(t, s, nil)
	wantRun(t, m, x, 0, "1 4=1 0 10 11 28 29 18 19 16 17 13 30 4=0")
	wantTold(t, m, x, 2, reader.Answer{Allowed: true, Version: 5, Page: 10})

	x = checkOf(t, s, 0, nil, 2, 3, 2)
	wantRun(t, m, x, 0, "1 4=1 0 10 11 28 29 18 19 24 4=0")
	wantTold(t, m, x, 2, reader.Answer{Version: 5, Page: 10})

	c := cacheOf(t, 1, 1)
	x = openDoor(t, s, c)
	wantRun(t, m, x, 0, "1 4=1 0 10 11 28 29 18 19 16 17 13 30 4=0")
	wantTold(t, m, x, 2, reader.Answer{Allowed: true, Version: 5, Page: 10})
	x = openDoor(t, s, c)
	wantRun(t, m, x, 0, "1 4=1 0 10 4=0")
	wantTold(t, m, x, 2, reader.Answer{Allowed: true, Hit: true, Version: 5, Page: 10})

	x = versionOf(t, s, 1)
	wantRun(t, m, x, 0, "1 5=1 0 10 5=0")
	wantTold(t, m, x, 2, reader.Answer{Version: 5, Page: 10})

	m.Store(0, 40)
	x = openDoor(t, s, nil)
	wantRun(t, m, x, 0, "1 4=1 0 40 4=0")
	wantTold(t, m, x, 2, reader.Answer{Broken: true, Page: 40})

	s = small(t)
	s.Memory.Store(11, 6)
	x = openDoor(t, s, nil)
	wantRun(t, s.Memory, x, 0, "1 4=1 0 10 11 4=0")
	wantTold(t, s.Memory, x, 2, reader.Answer{Broken: true, Version: 5, Page: 10})

	s = flawed(t, api.FlawLate)
	x = openDoor(t, s, nil)
	wantRun(t, s.Memory, x, 0, "0 1 4=1 10 11 28 29 18 19 16 17 13 30 4=0")
	wantTold(t, s.Memory, x, 0, reader.Answer{Allowed: true, Version: 5, Page: 10})
}
