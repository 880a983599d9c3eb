package sched_test

import (
	"iter"
	"math"
	"slices"
	"testing"

	"gatehouse/api"
	"gatehouse/sched"
)

// 16.7

func TestMixesInTheirOrder(t *testing.T) {
	wantMixes(t, sched.Mixes(2, 2),
		[]int{0, 0, 1, 1}, []int{0, 1, 0, 1}, []int{0, 1, 1, 0},
		[]int{1, 0, 0, 1}, []int{1, 0, 1, 0}, []int{1, 1, 0, 0})
	wantMixes(t, sched.Mixes(1, 1, 1),
		[]int{0, 1, 2}, []int{0, 2, 1}, []int{1, 0, 2},
		[]int{1, 2, 0}, []int{2, 0, 1}, []int{2, 1, 0})
	wantMixes(t, sched.Mixes(1, 0, 2), []int{0, 2, 2}, []int{2, 0, 2}, []int{2, 2, 0})
	wantMixes(t, sched.Mixes(1, -1, 1), []int{0, 2}, []int{2, 0})
	wantMixes(t, sched.Mixes(1, 2), []int{0, 1, 1}, []int{1, 0, 1}, []int{1, 1, 0})
}

func TestMixesOfNothing(t *testing.T) {
	for _, steps := range [][]int{
		nil, {}, {0}, {-1}, {math.MinInt}, {0, 0, 0}, {0, -3}, {-3, 0},
		{math.MinInt, math.MinInt}, {math.MinInt, -1}, make([]int, 64),
	} {
		wantMixes(t, sched.Mixes(steps...), nil)
	}
}

func TestMixesOfOneNumber(t *testing.T) {
	for _, n := range []int{1, 2, 3, 100} {
		wantMixes(t, sched.Mixes(n), make([]int, n))
		wantMixes(t, sched.Mixes(0, -1, n, 0), slices.Repeat([]int{2}, n))
	}
}

// A number below 0 takes nothing off the sum.
func TestMixesOfNegativeNumbers(t *testing.T) {
	for _, low := range []int{0, -1, -1048576, math.MinInt} {
		wantMixes(t, sched.Mixes(1, low, 1), []int{0, 2}, []int{2, 0})
		wantMixes(t, sched.Mixes(low, 1, 1), []int{1, 2}, []int{2, 1})
		wantMixes(t, sched.Mixes(1, 1, low), []int{0, 1}, []int{1, 0})
		wantMixes(t, sched.Mixes(low, api.MaxPicks+1))
		wantMixes(t, sched.Mixes(api.MaxPicks+1, low))
		wantMixes(t, sched.Mixes(api.MaxPicks, low, 1))
	}
}

func TestMixesOfManyNumbers(t *testing.T) {
	last := make([]int, api.MaxTasks)
	last[api.MaxTasks-1] = 2
	last[0] = 1
	wantMixes(t, sched.Mixes(last...), []int{0, 63, 63}, []int{63, 0, 63}, []int{63, 63, 0})
	for _, more := range [][]int{
		append(last, 0), append(last, -1), append(last, 1),
		make([]int, 65), make([]int, 66), make([]int, 1000), slices.Repeat([]int{-1}, 65),
	} {
		wantMixes(t, sched.Mixes(more...))
	}
	one := slices.Repeat([]int{1}, api.MaxTasks)
	for list := range sched.Mixes(one...) {
		if !slices.Equal(list, sched.Round(64, 64)) {
			t.Errorf("the first mix of 64 numbers is %v", list)
		}
		break
	}
	wantMixes(t, sched.Mixes(append(one, 1)...))
}

func TestMixesAtTheGreatestSum(t *testing.T) {
	wantMixes(t, sched.Mixes(api.MaxPicks), make([]int, api.MaxPicks))
	wantMixes(t, sched.Mixes(0, api.MaxPicks, 0), slices.Repeat([]int{1}, api.MaxPicks))
	for _, steps := range [][]int{{1, api.MaxPicks - 1}, {api.MaxPicks - 1, 1}, {api.MaxPicks / 2, api.MaxPicks / 2}, slices.Repeat([]int{api.MaxPicks / 64}, 64)} {
		var want []int
		for n, s := range steps {
			want = append(want, slices.Repeat([]int{n}, s)...)
		}
		got := some(sched.Mixes(steps...), 2)
		if len(got) != 2 || !slices.Equal(got[0], want) {
			t.Fatalf("Mixes(%v) has no first and second list", steps)
		}
		for place := len(want) - 1; ; place-- { // the second list: the last two that differ are changed, the greatest behind them last
			if want[place] != want[place-1] {
				want[place], want[place-1] = want[place-1], want[place]
				slices.Sort(want[place:])
				break
			}
		}
		if !slices.Equal(got[1], want) {
			t.Errorf("Mixes(%v) has another second list", steps)
		}
	}
}

func TestMixesBeyondTheGreatestSum(t *testing.T) {
	for _, steps := range [][]int{
		{api.MaxPicks + 1}, {1 << 32}, {math.MaxInt},
		{api.MaxPicks, 1}, {1, api.MaxPicks}, {api.MaxPicks / 2, api.MaxPicks/2 + 1},
		{0, 1, api.MaxPicks, 0}, {api.MaxPicks, api.MaxPicks},
		{math.MaxInt, 1}, {1, math.MaxInt}, {math.MaxInt, math.MaxInt}, {math.MaxInt, math.MaxInt, 2}, {2, math.MaxInt, math.MaxInt},
		{math.MaxInt, math.MinInt}, {math.MinInt, math.MaxInt}, {1 << 62, 1 << 62, 1 << 62, 1 << 62}, {1 << 62, 1 << 62, 1 << 62, 1<<62 + 1},
		slices.Repeat([]int{1 << 58}, 64), append(slices.Repeat([]int{api.MaxPicks / 64}, 63), api.MaxPicks/64+1),
	} {
		wantMixes(t, sched.Mixes(steps...))
		if sched.Mixes(steps...) == nil {
			t.Errorf("Mixes(%v) is nil", steps)
		}
	}
}

// R9

func TestMixesStoppedAnywhere(t *testing.T) {
	mixes := sched.Mixes(2, 2, 1)
	all := slices.Collect(mixes)
	if len(all) != 30 {
		t.Fatalf("Mixes(2, 2, 1) has %d lists", len(all))
	}
	for n := range len(all) + 1 {
		if got := some(mixes, n); !alike(got, all[:n]) {
			t.Errorf("the first %d lists are %v", n, got)
		}
		calls := 0
		mixes(func([]int) bool {
			calls++
			return calls < n
		})
		if want := max(n, 1); calls != want {
			t.Errorf("stopped at %d, there were %d calls", n, calls)
		}
	}
}

func TestMixesOfNothingStopped(t *testing.T) {
	for _, mixes := range []iter.Seq[[]int]{sched.Mixes(), sched.Mixes(0), sched.Mixes(3)} {
		calls := 0
		mixes(func([]int) bool {
			calls++
			return false
		})
		if calls != 1 {
			t.Errorf("there were %d calls", calls)
		}
	}
}

func TestMixesGoneOverTwice(t *testing.T) {
	mixes := sched.Mixes(1, 2, 1)
	all := slices.Collect(mixes)
	wantMixes(t, mixes, all...)
	some(mixes, 5)
	wantMixes(t, mixes, all...)
}

func TestMixesWithinItself(t *testing.T) {
	mixes := sched.Mixes(2, 1, 1)
	all := slices.Collect(mixes)
	var outer [][]int
	for list := range mixes {
		outer = append(outer, list)
		var inner [][]int
		for within := range mixes {
			inner = append(inner, within)
		}
		if !alike(inner, all) {
			t.Errorf("within %v there are %v", list, inner)
		}
	}
	if !alike(outer, all) {
		t.Errorf("without there are %v", outer)
	}
}

// Two that are pulled in turn do not disturb one another.
func TestMixesPulledInTurn(t *testing.T) {
	mixes := sched.Mixes(2, 2)
	all := slices.Collect(mixes)
	a, stopA := iter.Pull(mixes)
	b, stopB := iter.Pull(mixes)
	defer stopA()
	defer stopB()
	a()
	for i := range all {
		x, _ := a()
		y, ok := b()
		if !ok || !slices.Equal(y, all[i]) || i+1 < len(all) && !slices.Equal(x, all[i+1]) {
			t.Errorf("in turn, at %d: %v and %v", i, x, y)
		}
	}
}

// What is gone over is as it was at the call of Mixes, whatever becomes of the numbers.
func TestMixesOfChangedNumbers(t *testing.T) {
	steps := make([]int, 2, 5)
	steps[0], steps[1] = 2, 1
	mixes := sched.Mixes(steps...)
	want := [][]int{{0, 0, 1}, {0, 1, 0}, {1, 0, 0}}
	for _, other := range []int{0, -1, 5, math.MaxInt} {
		spoilt(steps, other)
		wantMixes(t, mixes, want...)
	}
	var got [][]int
	for list := range mixes {
		got = append(got, list)
		spoilt(steps, len(got))
	}
	if !alike(got, want) {
		t.Errorf("numbers that change meanwhile: %v", got)
	}
	beyond := []int{api.MaxPicks, 1}
	none := sched.Mixes(beyond...)
	spoilt(beyond, 1)
	wantMixes(t, none)
}
