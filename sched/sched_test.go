package sched_test

import (
	"fmt"
	"iter"
	"slices"
	"testing"

	"gatehouse/api"
	"gatehouse/sched"
)

// script is a machine that answers what it was told to, one answer a step, and notes what it is given.
type script struct {
	answers []bool
	given   []int
}

func (s *script) Step(now int) bool {
	s.given = append(s.given, now)
	return s.answers[len(s.given)-1]
}

// asking is a machine that ends with its first step, and calls a function there.
type asking func(now int)

func (a asking) Step(now int) bool {
	a(now)
	return true
}

func joined(t *testing.T, b *sched.Board, machines ...sched.Machine) {
	t.Helper()
	for _, m := range machines {
		if _, e := b.Join(m); e != api.OK {
			t.Fatalf("Join: %v", e)
		}
	}
}

// boardOf is a new board of counters of so many steps, and the counters.
func boardOf(t *testing.T, steps ...int) (*sched.Board, []*sched.Counter) {
	t.Helper()
	b := sched.New()
	var counters []*sched.Counter
	for _, n := range steps {
		c := sched.NewCounter(n)
		joined(t, b, c)
		counters = append(counters, c)
	}
	return b, counters
}

func wantJoin(t *testing.T, b *sched.Board, m sched.Machine, number int, code api.Errno) {
	t.Helper()
	if n, e := b.Join(m); n != number || e != code {
		t.Errorf("Join = %d, %v, want %d, %v", n, e, number, code)
	}
}

func wantPick(t *testing.T, b *sched.Board, task int, want bool) {
	t.Helper()
	if got := b.Pick(task); got != want {
		t.Errorf("Pick(%d) = %v, want %v", task, got, want)
	}
}

func wantNow(t *testing.T, b *sched.Board, want int) {
	t.Helper()
	if n := b.Now(); n != want {
		t.Errorf("Now() = %d, want %d", n, want)
	}
}

func wantEnded(t *testing.T, b *sched.Board, task, want int) {
	t.Helper()
	if n := b.Ended(task); n != want {
		t.Errorf("Ended(%d) = %d, want %d", task, n, want)
	}
}

func wantTimes(t *testing.T, c *sched.Counter, want ...int) {
	t.Helper()
	if l := c.Times(); !slices.Equal(l, want) {
		t.Errorf("Times() = %v, want %v", l, want)
	}
}

func wantFair(t *testing.T, picks, ends []int, window int, want bool) {
	t.Helper()
	if got := sched.Fair(picks, ends, window); got != want {
		t.Errorf("Fair(%v, %v, %d) = %v", picks, ends, window, got)
	}
}

// wantMixes asks for no more lists than one too many: what is wrong may be very many.
func wantMixes(t *testing.T, mixes iter.Seq[[]int], want ...[]int) {
	t.Helper()
	if got := some(mixes, len(want)+1); !alike(got, want) {
		t.Errorf("the mixes are %s, want %s", told(got), told(want))
	}
}

// told is the beginning of some lists: one may have a million numbers.
func told(lists [][]int) string {
	text := ""
	for _, l := range lists[:min(len(lists), 40)] {
		text += fmt.Sprint(l[:min(len(l), 40)], " ")
	}
	return text + fmt.Sprint("(", len(lists), ")")
}

// some are the first n lists.
func some(mixes iter.Seq[[]int], n int) [][]int {
	var got [][]int
	if n == 0 {
		return nil
	}
	for list := range mixes {
		if got = append(got, list); len(got) == n {
			break
		}
	}
	return got
}

func alike(x, y [][]int) bool { return slices.EqualFunc(x, y, slices.Equal) }

// The chapter's examples, in their order.
func TestExamples(t *testing.T) {
	c := sched.NewCounter(2)
	if c.Step(5) || !c.Step(9) || !c.Step(11) {
		t.Error("a counter of two steps")
	}
	wantTimes(t, c, 5, 9)
	c = sched.NewCounter(0)
	if !c.Step(3) {
		t.Error("a counter of no steps")
	}
	wantTimes(t, c, 3)
	b, counters := boardOf(t, 2, 1)
	wantPick(t, b, 1, true)
	wantPick(t, b, 0, true)
	wantPick(t, b, 1, false)
	wantPick(t, b, 7, false)
	wantPick(t, b, 0, true)
	wantNow(t, b, 5)
	wantEnded(t, b, 0, 4)
	wantEnded(t, b, 1, 0)
	wantEnded(t, b, 2, -1)
	wantTimes(t, counters[0], 1, 4)
	wantTimes(t, counters[1], 0)
	b = sched.New()
	wantJoin(t, b, nil, 0, api.ErrNil)
	for n := range 64 {
		wantJoin(t, b, c, n, api.OK)
	}
	wantJoin(t, b, c, 0, api.ErrMany)
	wantJoin(t, b, nil, 0, api.ErrNil)
}

func TestExamplesOfPicks(t *testing.T) {
	for _, c := range []struct {
		tasks, n int
		want     []int
	}{{3, 5, []int{0, 1, 2, 0, 1}}, {0, 5, nil}, {65, 1, nil}, {1, -1, nil}} {
		if got := sched.Round(c.tasks, c.n); !slices.Equal(got, c.want) {
			t.Errorf("Round(%d, %d) = %v", c.tasks, c.n, got)
		}
	}
	wantFair(t, []int{0, 1, 0, 1}, []int{-1, -1}, 2, true)
	wantFair(t, []int{0, 1, 1, 0}, []int{-1, -1}, 2, false)
	wantFair(t, []int{0, 1, 1, 0}, []int{0, 2}, 2, true)
	wantFair(t, []int{0, 0}, []int{-1, -1}, 2, false)
	wantFair(t, []int{0, 0}, []int{-1, -1}, 3, true)
	wantFair(t, nil, nil, 0, false)
	wantFair(t, nil, []int{-1}, 1, true)
	wantMixes(t, sched.Mixes(2, 1), []int{0, 0, 1}, []int{0, 1, 0}, []int{1, 0, 0})
	wantMixes(t, sched.Mixes(), nil)
	wantMixes(t, sched.Mixes(0, -3), nil)
	wantMixes(t, sched.Mixes(0, 1), []int{1})
	wantMixes(t, sched.Mixes(1048577))
	wantMixes(t, sched.Mixes(make([]int, 65)...))
}
