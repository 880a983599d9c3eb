package sched_test

import (
	"math"
	"slices"
	"testing"

	"gatehouse/api"
	"gatehouse/sched"
)

// 16.6

func TestFairWindowBelowOne(t *testing.T) {
	for _, window := range []int{0, -1, -2, math.MinInt, math.MinInt + 1} {
		wantFair(t, nil, nil, window, false)
		wantFair(t, nil, []int{-1}, window, false)
		wantFair(t, []int{0}, nil, window, false)
		wantFair(t, []int{0, 0, 0}, []int{-1}, window, false)
		wantFair(t, []int{0, 0, 0}, []int{0}, window, false)
	}
}

func TestFairWithoutTasks(t *testing.T) {
	for _, window := range []int{1, 2, 3, 4, math.MaxInt} {
		wantFair(t, nil, nil, window, true)
		wantFair(t, []int{0, 1, -1}, nil, window, true)
		wantFair(t, []int{0, 1, -1}, []int{}, window, true)
	}
}

func TestFairWithoutPicks(t *testing.T) {
	for _, window := range []int{1, 2, math.MaxInt} {
		for _, end := range []int{-1, 0, 1, math.MinInt, math.MaxInt} {
			wantFair(t, nil, []int{end}, window, true)
			wantFair(t, []int{}, []int{end, end, end}, window, true)
		}
	}
}

// A task that is never picked: fair just where fewer moments lie there than the window has.
func TestFairWindowOfTheMomentsThereAre(t *testing.T) {
	picks := []int{0, 0, 0, 0, 0}
	for _, end := range []int{-1, 4, 5, math.MaxInt, math.MinInt} {
		wantFair(t, picks, []int{-1, end}, 1, false)
		wantFair(t, picks, []int{-1, end}, 4, false)
		wantFair(t, picks, []int{-1, end}, 5, false)
		wantFair(t, picks, []int{-1, end}, 6, true)
		wantFair(t, picks, []int{-1, end}, math.MaxInt-1, true)
		wantFair(t, picks, []int{-1, end}, math.MaxInt, true)
	}
	for end := range 5 {
		wantFair(t, picks, []int{-1, end}, end, false)
		wantFair(t, picks, []int{-1, end}, end+1, false)
		wantFair(t, picks, []int{-1, end}, end+2, true)
	}
}

// The rows at the beginning, in the midst and at the end are looked at alike.
func TestFairWhereTheRowLies(t *testing.T) {
	for _, picks := range [][]int{
		{1, 1, 1, 0, 0, 0},
		{0, 1, 1, 1, 0, 0},
		{0, 0, 1, 1, 1, 0},
		{0, 0, 0, 1, 1, 1},
	} {
		for window, want := range map[int]bool{1: false, 2: false, 3: false, 4: true, 5: true, 6: true, 7: true} {
			wantFair(t, picks, []int{-1}, window, want)
		}
	}
}

func TestFairUpToTheEnd(t *testing.T) {
	picks := []int{0, 1, 0, 1, 1, 1, 0}
	for end, want := range []bool{true, true, true, true, false, false, false} {
		wantFair(t, picks, []int{end}, 2, want)
	}
	for _, end := range []int{-1, -2, 7, 8, 1 << 32, math.MinInt, math.MaxInt} {
		wantFair(t, picks, []int{end}, 2, false)
		wantFair(t, picks, []int{end}, 3, false)
		wantFair(t, picks, []int{end}, 4, true)
	}
}

// An end is the task's own, and the moment at which it lies is counted in.
func TestFairEndsAreTheTasksOwn(t *testing.T) {
	picks := []int{0, 1, 2, 2, 1, 0}
	wantFair(t, picks, []int{2, 3, 5}, 3, true)
	wantFair(t, picks, []int{3, 3, 5}, 3, false)
	wantFair(t, picks, []int{2, 5, 5}, 3, true)
	wantFair(t, picks, []int{2, 5, 5}, 2, false)
	wantFair(t, picks, []int{1, 2, 2}, 3, true)
	wantFair(t, picks, []int{1, 2, 1}, 2, false)
	wantFair(t, picks, []int{1, 2, 0}, 2, true)
}

// A pick behind the end does not help: a row ahead of the end is looked at without it.
func TestFairPickBehindTheEnd(t *testing.T) {
	wantFair(t, []int{1, 1, 0}, []int{1}, 2, false)
	wantFair(t, []int{1, 1, 0}, []int{2}, 3, true)
	wantFair(t, []int{1, 1, 0}, []int{0}, 1, false)
	wantFair(t, []int{1, 1, 0}, []int{0}, 2, true)
	wantFair(t, []int{0, 1, 1, 0, 0}, []int{2}, 2, false)
	wantFair(t, []int{0, 1, 1, 1, 1, 0}, []int{1}, 2, true) // nor does one do harm there
}

func TestFairWindowOfOne(t *testing.T) {
	wantFair(t, []int{0, 0, 0}, []int{-1}, 1, true)
	wantFair(t, []int{0, 0, 1}, []int{-1}, 1, false)
	wantFair(t, []int{0, 0, 1}, []int{1}, 1, true)
	wantFair(t, []int{0, 0, 1}, []int{1, -1}, 1, false)
	wantFair(t, []int{1, 0, 0}, []int{-1}, 1, false)
}

// Numbers that are no tasks take their moments.
func TestFairNumbersThatAreNoTasks(t *testing.T) {
	for _, n := range []int{-1, 2, 64, math.MinInt, math.MaxInt} {
		wantFair(t, []int{0, 1, 0, 1}, []int{-1, -1}, 2, true)
		wantFair(t, []int{0, 1, n, 0, 1}, []int{-1, -1}, 2, false)
		wantFair(t, []int{0, 1, n, 0, 1}, []int{-1, -1}, 3, true)
		wantFair(t, []int{n, n, n}, []int{-1, -1}, 3, false)
		wantFair(t, []int{n, n, n}, []int{-1, -1}, 4, true)
		wantFair(t, []int{n, n, n}, []int{1, 0}, 3, true)
	}
}

// Each task counts, also one among many, and there may be more than a board takes.
func TestFairOfManyTasks(t *testing.T) {
	for _, tasks := range []int{2, 64, 65, 1000} {
		var picks []int
		for now := range 3 * tasks {
			picks = append(picks, now%tasks)
		}
		ends := slices.Repeat([]int{-1}, tasks)
		wantFair(t, picks, ends, tasks, true)
		wantFair(t, picks, ends, tasks-1, false)
		for _, task := range []int{0, tasks / 2, tasks - 1} {
			late := slices.Clone(picks)
			late[tasks+task] = -1
			wantFair(t, late, ends, tasks, false)
			wantFair(t, late, ends, 2*tasks-1, false)
			wantFair(t, late, ends, 2*tasks, true)
		}
	}
}

func TestFairOfRound(t *testing.T) {
	for _, tasks := range []int{1, 5, api.MaxTasks} {
		picks, ends := sched.Round(tasks, api.MaxPicks), make([]int, tasks)
		for task := range ends {
			ends[task] = -1
		}
		if !sched.Fair(picks, ends, tasks) || sched.Fair(picks, ends, tasks-1) {
			t.Errorf("Round of %d tasks is not fair in each row of %d alone", tasks, tasks)
		}
	}
}

// As many tasks as moments: the answer comes in a time that their sum bounds, not their product.
func TestFairOfManyTasksAndPicks(t *testing.T) {
	const n = api.MaxPicks
	picks, ends := make([]int, n), make([]int, n)
	for i := range picks {
		picks[i], ends[i] = i, i
	}
	if !sched.Fair(picks, ends, n) || sched.Fair(picks, ends, n-1) {
		t.Error("the last task is picked at its end alone, and n - 1 moments are ahead of it")
	}
	for i := range ends {
		ends[i] = -1
	}
	if !sched.Fair(picks, ends, n) || sched.Fair(picks, ends, n-1) {
		t.Error("the first task is picked at 0 alone, and n - 1 moments are behind it")
	}
}
