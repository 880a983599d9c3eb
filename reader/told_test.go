package reader_test

import (
	"math"
	"slices"
	"strings"
	"testing"

	"gatehouse/api"
	"gatehouse/reader"
)

// 23.7

// What is known behind each step, and nothing ahead of its time.
func TestWhatIsToldBehindEachStep(t *testing.T) {
	for _, e := range endings() {
		s, _, x := e.ready(t)
		list := strings.Fields(e.accesses)
		// The current word is loaded with the step of the point, the version with the next one, but for the section's two.
		version := e.point + 1
		if e.flaw == api.FlawLate {
			version = 3
		}
		for i, access := range list {
			want, point := reader.Answer{}, -1
			if i > e.point {
				want.Page, point = e.answer.Page, 40+e.point
			}
			if i > version {
				want.Version = e.answer.Version
			}
			wantTold(t, s.Memory, x, point, withEnd(e.answer, want, i == len(list)-1))
			wantStep(t, s.Memory, x, 40+i, i == len(list)-1, access)
			if t.Failed() {
				t.Fatalf("%s, behind %d steps", e.what, i)
			}
		}
		wantTold(t, s.Memory, x, 40+e.point, e.answer)
	}
}

// withEnd is what is known ahead of the last step: all of it.
func withEnd(all, so reader.Answer, end bool) reader.Answer {
	if end {
		return all
	}
	return so
}

// The point is -1 while the load of the current word was not made, and is made once: also at the moment -1, at the ends of int, and where the load is refused.
func TestThePoint(t *testing.T) {
	for _, flaw := range flaws() {
		for _, version := range []bool{false, true} {
			for _, now := range []int{-1, 0, 1, math.MinInt, math.MaxInt, 1 << 40} {
				for _, current := range []int{0, 40, -1} {
					s := flawed(t, flaw)
					s.Current = current
					x := machineOf(t, s, version)
					ahead := 2
					if flaw == api.FlawLate {
						ahead = 0
					}
					for i := range ahead {
						x.Step(1000 + i)
						if x.Point() != -1 {
							t.Errorf("flaw %d: the point is %d behind %d steps", flaw, x.Point(), i+1)
						}
					}
					x.Step(now)
					for i := range 20 {
						if x.Point() != now {
							t.Fatalf("flaw %d: the point is %d, want %d", flaw, x.Point(), now)
						}
						x.Step(2000 + i)
					}
				}
			}
		}
	}
}

// An answer is one's own: it stays as it was.
func TestAnswersStay(t *testing.T) {
	s := small(t)
	x := openDoor(t, s, nil)
	var told []reader.Answer
	for now := 0; !x.Step(now); now++ {
		told = append(told, x.Answer())
	}
	want := slices.Concat(slices.Repeat([]reader.Answer{{}}, 2), []reader.Answer{{Page: 10}}, slices.Repeat([]reader.Answer{{Version: 5, Page: 10}}, 9), []reader.Answer{{Allowed: true, Version: 5, Page: 10}})
	if !slices.Equal(told, want) {
		t.Errorf("%+v, want %+v", told, want)
	}
}
