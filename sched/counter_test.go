package sched_test

import (
	"math"
	"slices"
	"testing"

	"gatehouse/sched"
)

// 16.1

func TestCounterOfEachLength(t *testing.T) {
	for _, c := range []struct{ n, steps int }{
		{1, 1}, {2, 2}, {3, 3}, {10, 10}, {1000, 1000},
		{0, 1}, {-1, 1}, {-2, 1}, {-1000, 1}, {math.MinInt, 1},
	} {
		m := sched.NewCounter(c.n)
		var want []int
		for i := 1; i <= c.steps; i++ {
			want = append(want, 7*i)
			if last := m.Step(7 * i); last != (i == c.steps) {
				t.Errorf("NewCounter(%d): the step %d answers %v", c.n, i, last)
			}
			wantTimes(t, m, want...)
		}
		for i := range 4 {
			if !m.Step(i) {
				t.Errorf("NewCounter(%d): a step behind the last answers false", c.n)
			}
			wantTimes(t, m, want...)
		}
	}
}

// Nothing is kept for steps that have not come.
func TestCounterOfManySteps(t *testing.T) {
	for _, n := range []int{1 << 32, math.MaxInt - 1, math.MaxInt} {
		m := sched.NewCounter(n)
		var want []int
		for i := range 100 {
			if m.Step(i) {
				t.Fatalf("NewCounter(%d): the step %d answers true", n, i+1)
			}
			want = append(want, i)
		}
		wantTimes(t, m, want...)
	}
}

// The numbers that are given need not rise, nor be moments.
func TestCounterNotesWhatIsGiven(t *testing.T) {
	given := []int{5, 5, -1, 0, math.MinInt, math.MaxInt, 3}
	m := sched.NewCounter(len(given))
	for _, n := range given {
		m.Step(n)
	}
	m.Step(99)
	wantTimes(t, m, given...)
}

func TestTimesAheadOfTheFirstStep(t *testing.T) {
	for _, n := range []int{-1, 0, 1, 5, math.MaxInt} {
		wantTimes(t, sched.NewCounter(n))
	}
}

// Asking changes nothing, and each counter is one of its own.
func TestCountersApart(t *testing.T) {
	a, b := sched.NewCounter(2), sched.NewCounter(2)
	a.Step(1)
	wantTimes(t, b)
	for range 3 {
		wantTimes(t, a, 1)
	}
	if b.Step(4) || !a.Step(2) || !b.Step(6) {
		t.Error("two counters of two steps are one")
	}
	wantTimes(t, a, 1, 2)
	wantTimes(t, b, 4, 6)
}

func TestCounterIsAMachine(t *testing.T) {
	var m sched.Machine = sched.NewCounter(2)
	if m.Step(0) || !m.Step(1) {
		t.Error("a counter as a machine")
	}
	if c, ok := m.(*sched.Counter); !ok || !slices.Equal(c.Times(), []int{0, 1}) {
		t.Error("a counter as a machine has other times")
	}
}
