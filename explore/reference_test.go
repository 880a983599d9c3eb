package explore_test

import (
	"slices"
	"testing"

	"gatehouse/api"
	"gatehouse/judge"
	"gatehouse/sched"
	"gatehouse/store"
)

// A second reckoning, by the chapter's words: all lists of picks are tried, each one from its beginning.

// look is what is seen of a list of picks.
type look struct {
	ready    bool // each pick is of a task that was ready
	switches int
	waited   bool  // a task that was picked had to wait then
	next     []int // the tasks that are ready behind the last pick
	store    *store.Store
}

func looked(t *testing.T, c api.Config, tasks [][]api.Op, picks []int) look {
	t.Helper()
	s, e := store.New(c, tasks)
	if e != api.OK {
		t.Fatalf("New(%+v): %v", c, e)
	}
	l := look{ready: true, store: s}
	for i, task := range picks {
		l.ready = l.ready && s.Ready(task)
		if i > 0 && picks[i-1] != task && s.Ready(picks[i-1]) {
			l.switches++
		}
		l.waited = l.waited || i > 0 && !s.Ready(picks[i-1]) && !s.Done(picks[i-1])
		s.Pick(task)
	}
	for task := range tasks {
		if s.Ready(task) {
			l.next = append(l.next, task)
		}
	}
	return l
}

// tried are all runs with at most so many switches. A list that no such run begins with is not gone on with; where there are more than most the trial is given up.
func tried(t *testing.T, c api.Config, tasks [][]api.Op, switches, most int) ([]run, bool) {
	t.Helper()
	var found []run
	var try func(picks []int)
	try = func(picks []int) {
		l := looked(t, c, tasks, picks)
		if len(found) > most || l.switches > switches {
			return
		}
		if len(l.next) == 0 {
			found = append(found, run{slices.Clone(picks), l.store.Run()})
		}
		for _, task := range l.next {
			try(append(slices.Clone(picks), task))
		}
	}
	try(nil)
	return found, len(found) <= most
}

// broken is what Find must tell of these runs, looking at most of them.
func broken(tasks [][]api.Op, runs []run, most int) (api.Finding, api.Errno) {
	for i, x := range runs {
		if i >= most {
			return api.Finding{}, api.ErrMany
		}
		if b := judge.Breach(tasks, x.r); b != api.BreachNone {
			return api.Finding{Picks: x.picks, Breach: b, Runs: i + 1}, api.OK
		}
	}
	return api.Finding{Runs: len(runs)}, api.OK
}

// wantTried asks Runs for just the runs of the trial, and Count and Find for what they must tell of them.
func wantTried(t *testing.T, c api.Config, tasks [][]api.Op, switches int, want []run) {
	t.Helper()
	got := all(c, tasks, switches)
	wantPicks(t, "Runs", picksOf(got), picksOf(want))
	if t.Failed() {
		return
	}
	for i, x := range got {
		if !same(x.r, want[i].r) {
			t.Errorf("%s: the run tells %+v, want %+v", written(x.picks), x.r, want[i].r)
		}
	}
	for _, most := range []int{-1, 0, 1, len(want) / 2, len(want) - 1, len(want), len(want) + 1} {
		if most < len(want) {
			wantCount(t, c, tasks, switches, most, 0, false)
		} else {
			wantCount(t, c, tasks, switches, most, len(want), true)
		}
		f, e := broken(tasks, want, most)
		wantFound(t, c, tasks, switches, most, f, e)
	}
}

// mixed are all runs of tasks that never wait, by their steps alone: the mixes of these in which a task that goes on is seldom left.
func mixed(steps []int, switches int) [][]int {
	var l [][]int
	for picks := range sched.Mixes(steps...) {
		n := 0
		for i, task := range picks {
			if i > 0 && picks[i-1] != task && slices.Contains(picks[i:], picks[i-1]) {
				n++
			}
		}
		if n <= switches {
			l = append(l, picks)
		}
	}
	return l
}
