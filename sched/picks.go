package sched

import (
	"slices"

	"gatehouse/api"
)

// Round are n picks in turn.
func Round(tasks, n int) []int {
	if tasks < 1 || tasks > api.MaxTasks || n < 1 || n > api.MaxPicks {
		return nil
	}
	picks := make([]int, n)
	for now := range picks {
		picks[now] = now % tasks
	}
	return picks
}

// Fair says whether each task is picked in every window until its end.
func Fair(picks, ends []int, window int) bool {
	if window < 1 {
		return false
	}
	last := slices.Repeat([]int{-1}, len(ends)) // the moment of each task's last pick; a row that begins at 0 is behind -1
	for now, task := range picks {
		if task < 0 || task >= len(ends) || now > endOf(ends[task], picks) {
			continue
		}
		if unpicked := now - last[task] - 1; unpicked >= window {
			return false
		}
		last[task] = now
	}
	for task, end := range ends {
		if unpicked := endOf(end, picks) - last[task]; unpicked >= window {
			return false
		}
	}
	return true
}

// endOf is the moment up to which a task is looked at: all of them, where no moment of the picks is told.
func endOf(end int, picks []int) int {
	if end < 0 || end >= len(picks) {
		return len(picks) - 1
	}
	return end
}
