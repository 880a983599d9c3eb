package reader_test

import (
	"strings"
	"testing"

	"gatehouse/api"
	"gatehouse/reader"
)

// 23.5

func TestVersionsOfAnyNumber(t *testing.T) {
	for _, flaw := range flaws() {
		for _, version := range corners() {
			s := flawed(t, flaw)
			set(s.Memory, pageAt, version)
			x := versionOf(t, s, 0)
			wantRun(t, s.Memory, x, 0, strings.Join(wayOf(flaw, true), " "))
			want := reader.Answer{Version: version, Page: 10}
			if version == poison {
				want = reader.Answer{Broken: true, Page: 10}
			}
			wantTold(t, s.Memory, x, pointOf(flaw), want)
		}
	}
}

// A version asks for no more than the version: the rest of the page may be anything, or not be there.
func TestAVersionIsAllThatIsAsked(t *testing.T) {
	s := siteOf(t, pageAt+1, 8)
	x := versionOf(t, s, 0)
	wantRun(t, s.Memory, x, 0, "1 4=1 0 10 4=0")
	wantTold(t, s.Memory, x, 2, reader.Answer{Version: 8, Page: 10})

	s = small(t)
	s.Memory.Poison(11, 29)
	x = versionOf(t, s, 1)
	wantRun(t, s.Memory, x, 0, "1 5=1 0 10 5=0")
	wantTold(t, s.Memory, x, 2, reader.Answer{Version: 5, Page: 10})
}

// The page may be any address of the memory, the current word's too.
func TestVersionsOfAnyPage(t *testing.T) {
	for p := range 40 {
		s := small(t)
		set(s.Memory, 0, p)
		x := versionOf(t, s, 0)
		wantSteps(t, s.Memory, x, 0, "1 4=1 0")
		words := allWords(t, s.Memory)
		wantRun(t, s.Memory, x, 3, numbers(p)+" 4=0")
		wantTold(t, s.Memory, x, 2, reader.Answer{Version: words[p], Page: p})
	}
}

// The current word is written at each moment: behind the point the page that was looked at counts, ahead of it the new one.
func TestTheCurrentWordIsWritten(t *testing.T) {
	for _, flaw := range []int{0, api.FlawTag, api.FlawLate} {
		for _, version := range []bool{false, true} {
			way := wayOf(flaw, version)
			for made := range way {
				s := flawed(t, flaw)
				x := machineOf(t, s, version)
				wantSteps(t, s.Memory, x, 0, strings.Join(way[:made], " "))
				set(s.Memory, 0, 35)
				set(s.Memory, 35, 77, 3) // a page without a table
				left := strings.Join(way[made:], " ")
				want := reader.Answer{Allowed: !version, Version: 5, Page: 10}
				if made <= pointOf(flaw) {
					left = strings.NewReplacer("10 "+throughPage, "35 36", "10", "35").Replace(left)
					want = reader.Answer{Broken: !version, Version: 77, Page: 35}
				}
				wantRun(t, s.Memory, x, made, left)
				wantTold(t, s.Memory, x, pointOf(flaw), want)
				if t.Failed() {
					t.Fatalf("flaw %d, version: %v, behind %d steps", flaw, version, made)
				}
			}
		}
	}
}
