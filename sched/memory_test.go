package sched_test

import (
	"slices"
	"testing"

	"gatehouse/sched"
)

// R5

// spoilt writes over a list, its spare room too, and behind it.
func spoilt[E any](l []E, filling E) {
	l = l[:cap(l)]
	for i := range l {
		l[i] = filling
	}
	_ = append(l, filling)
}

func TestTimesAreTheHoldersOwn(t *testing.T) {
	c := sched.NewCounter(20)
	var want []int
	for i := range 20 {
		held := c.Times()
		spoilt(c.Times(), -7)
		wantTimes(t, c, want...)
		c.Step(3 * i)
		if !slices.Equal(held, want) {
			t.Errorf("what was held became %v", held)
		}
		want = append(want, 3*i)
		other := c.Times()
		spoilt(c.Times(), -8)
		_ = append(held, -9)
		if !slices.Equal(other, want) {
			t.Errorf("another's list became %v", other)
		}
		wantTimes(t, c, want...)
	}
}

func TestRoundIsTheHoldersOwn(t *testing.T) {
	for _, n := range []int{1, 5, 100} {
		a, b := sched.Round(3, n), sched.Round(3, n)
		spoilt(a, -7)
		wantRound(t, 3, n)
		if slices.Contains(b, -7) {
			t.Errorf("two lists of Round(3, %d) are one", n)
		}
	}
}

// Each list is new memory: what is written into one is seen neither in another one nor by what comes next.
func TestMixesAreTheHoldersOwn(t *testing.T) {
	mixes := sched.Mixes(2, 1, 2)
	all := slices.Collect(mixes)
	was := slices.Collect(mixes)
	for i := range all {
		spoilt(all[i], -7)
		for j := i + 1; j < len(all); j++ {
			if !slices.Equal(all[j], was[j]) {
				t.Fatalf("list %d became %v by writing into list %d", j, all[j], i)
			}
		}
	}
	for _, filling := range []int{-7, 0, 1, 9} {
		i := 0
		for list := range mixes {
			if i >= len(was) || !slices.Equal(list, was[i]) {
				t.Fatalf("list %d is %v, where those ahead of it were written over", i, list)
			}
			spoilt(list, filling)
			i++
		}
		if i != len(was) {
			t.Errorf("there were %d lists", i)
		}
	}
	wantMixes(t, mixes, was...)
}

// roomy is a list with spare room that is told apart.
func roomy(l ...int) []int {
	l = append(slices.Clone(l), 71, 72, 73)
	return l[:len(l)-3]
}

func wantAsItWas(t *testing.T, l []int, was ...int) {
	t.Helper()
	if all := l[:len(l)+3]; !slices.Equal(all, append(slices.Clone(was), 71, 72, 73)) {
		t.Errorf("what was handed in became %v", all)
	}
}

func TestHandedInListsAreLeft(t *testing.T) {
	picks, ends := roomy(0, 1, 1, 0, -1, 5), roomy(-1, 2, 99)
	for window := range 8 {
		sched.Fair(picks, ends, window)
		wantAsItWas(t, picks, 0, 1, 1, 0, -1, 5)
		wantAsItWas(t, ends, -1, 2, 99)
	}
	steps := roomy(2, -1, 1)
	for list := range sched.Mixes(steps...) {
		wantAsItWas(t, steps, 2, -1, 1)
		spoilt(list, 8)
	}
	wantAsItWas(t, steps, 2, -1, 1)
}

// A nil list and an empty one are the same.
func TestNilAndEmpty(t *testing.T) {
	for window := range 3 {
		want := window > 0
		wantFair(t, nil, nil, window, want)
		wantFair(t, []int{}, nil, window, want)
		wantFair(t, nil, []int{}, window, want)
		wantFair(t, []int{}, []int{}, window, want)
	}
	wantMixes(t, sched.Mixes([]int{}...), []int{})
	wantMixes(t, sched.Mixes([]int(nil)...), []int{})
}
