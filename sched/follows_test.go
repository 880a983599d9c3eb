package sched_test

import (
	"slices"
	"testing"

	"gatehouse/sched"
)

// 16.8

// played is a new board of counters, behind some picks, and the counters.
func played(t *testing.T, steps, picks []int) (*sched.Board, []*sched.Counter) {
	t.Helper()
	b, counters := boardOf(t, steps...)
	for _, p := range picks {
		b.Pick(p)
	}
	return b, counters
}

func allEnded(b *sched.Board, tasks int) bool {
	for n := range tasks {
		if b.Ended(n) == -1 {
			return false
		}
	}
	return true
}

// each goes over all lists of n numbers from low to high, in the order of lists.
func each(n, low, high int, look func([]int)) {
	list := slices.Repeat([]int{low}, n)
	for {
		look(list)
		place := n - 1
		for place >= 0 && list[place] == high {
			list[place] = low
			place--
		}
		if place < 0 {
			return
		}
		list[place]++
	}
}

// Of the sum S of steps, S picks end all tasks just if they are one of the mixes.
func TestJustTheMixesEndAll(t *testing.T) {
	for _, steps := range [][]int{{1}, {3}, {1, 1}, {2, 1}, {1, 3}, {2, 2}, {1, 1, 1}, {2, 1, 2}, {1, 2, 1, 1}, {3, 3}} {
		sum := 0
		for _, n := range steps {
			sum += n
		}
		mixes := slices.Collect(sched.Mixes(steps...))
		each(sum, -1, len(steps), func(picks []int) {
			b, _ := played(t, steps, picks)
			mix := slices.ContainsFunc(mixes, func(l []int) bool { return slices.Equal(l, picks) })
			if ended := allEnded(b, len(steps)); ended != mix {
				t.Errorf("counters of %v: the picks %v end all: %v, are a mix: %v", steps, picks, ended, mix)
			}
		})
	}
}

// A counter of no steps has one all the same, and fewer picks than the sum never do.
func TestFewerPicksEndNotAll(t *testing.T) {
	each(3, -1, 2, func(picks []int) {
		if b, _ := played(t, []int{2, 0, -5}, picks); allEnded(b, 3) {
			t.Errorf("four steps by the picks %v", picks)
		}
	})
	if b, _ := played(t, []int{2, 0, -5}, []int{2, 0, 1, 0}); !allEnded(b, 3) {
		t.Error("four steps by four picks")
	}
}

// In a mix each pick is a step, and the times are the places of the task's number.
func TestEachPickOfAMixIsAStep(t *testing.T) {
	steps := []int{2, 3, 1, 2}
	for mix := range sched.Mixes(steps...) {
		b, counters := boardOf(t, steps...)
		for _, p := range mix {
			wantPick(t, b, p, true)
		}
		for n, c := range counters {
			places := placesOf(mix, n)
			wantTimes(t, c, places...)
			wantEnded(t, b, n, places[len(places)-1])
		}
		wantNow(t, b, len(mix))
	}
}

func placesOf(picks []int, n int) []int {
	var places []int
	for now, p := range picks {
		if p == n {
			places = append(places, now)
		}
	}
	return places
}

// A task's steps are made at rising moments, and there are no more of them than its machine has.
func TestStepsRise(t *testing.T) {
	d := dice(16)
	for range 200 {
		steps := make([]int, 1+d.throw(6))
		for n := range steps {
			steps[n] = d.throw(12) - 2
		}
		picks := make([]int, d.throw(120))
		for now := range picks {
			picks[now] = d.throw(len(steps)+2) - 1
		}
		_, counters := played(t, steps, picks)
		for n, c := range counters {
			times := c.Times()
			if len(times) > max(steps[n], 1) {
				t.Errorf("a counter of %d made %d steps", steps[n], len(times))
			}
			for i := 1; i < len(times); i++ {
				if times[i] <= times[i-1] {
					t.Errorf("the times are %v", times)
				}
			}
		}
	}
}
