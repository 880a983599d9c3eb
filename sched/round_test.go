package sched_test

import (
	"math"
	"testing"

	"gatehouse/api"
	"gatehouse/sched"
)

// 16.5

func TestRoundGoesInTurn(t *testing.T) {
	for _, tasks := range []int{1, 2, 3, 7, 63, 64} {
		for _, n := range []int{1, 2, 3, 63, 64, 65, 200} {
			wantRound(t, tasks, n)
		}
	}
}

func TestRoundAtItsLimits(t *testing.T) {
	for _, tasks := range []int{1, 2, api.MaxTasks} {
		wantRound(t, tasks, api.MaxPicks-1)
		wantRound(t, tasks, api.MaxPicks)
	}
}

func TestRoundOutsideItsLimits(t *testing.T) {
	badTasks := []int{0, -1, 65, 66, -64, 1 << 32, 1<<32 + 1, math.MinInt, math.MaxInt}
	badPicks := []int{0, -1, 1048577, 1048578, -1048576, 1 << 32, 1<<32 + 1, math.MinInt, math.MaxInt}
	for _, tasks := range badTasks {
		for _, n := range append(badPicks, 1, 5, 1048576) {
			wantNoRound(t, tasks, n)
		}
	}
	for _, tasks := range []int{1, 3, 64} {
		for _, n := range badPicks {
			wantNoRound(t, tasks, n)
		}
	}
}

func wantRound(t *testing.T, tasks, n int) {
	t.Helper()
	picks := sched.Round(tasks, n)
	if len(picks) != n {
		t.Fatalf("Round(%d, %d) has %d numbers", tasks, n, len(picks))
	}
	turn := 0
	for now, task := range picks {
		if task != turn {
			t.Fatalf("Round(%d, %d) has %d at %d, want %d", tasks, n, task, now, turn)
		}
		if turn++; turn == tasks {
			turn = 0
		}
	}
}

func wantNoRound(t *testing.T, tasks, n int) {
	t.Helper()
	if picks := sched.Round(tasks, n); len(picks) != 0 {
		t.Errorf("Round(%d, %d) has %d numbers", tasks, n, len(picks))
	}
}
