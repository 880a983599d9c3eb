package explore_test

import (
	"slices"
	"testing"

	"gatehouse/api"
	"gatehouse/explore"
	"gatehouse/judge"
	"gatehouse/store"
)

// 28.4 and DOC.md, W8.

// wantRun asks that the picks give the run, one by one and by Play, that each is of a task that is ready, that they have no more switches, and that behind them no task is ready.
func wantRun(t *testing.T, c api.Config, tasks [][]api.Op, switches int, x run) {
	t.Helper()
	l := looked(t, c, tasks, x.picks)
	if !l.ready || len(l.next) > 0 || l.switches > max(switches, 0) {
		t.Errorf("%s: ready %v, then %v, %d switches", written(x.picks), l.ready, l.next, l.switches)
	}
	if r := l.store.Run(); !same(r, x.r) || !same(store.Play(c, tasks, x.picks), x.r) || !slices.Equal(x.r.Tasks, x.picks) {
		t.Errorf("%s: %+v, picked again %+v", written(x.picks), x.r, r)
	}
}

// wantDone asks that at a run's end all tasks are done, and that no promise is broken.
func wantDone(t *testing.T, c api.Config, tasks [][]api.Op, x run) {
	t.Helper()
	s := looked(t, c, tasks, x.picks).store
	ops := 0
	for task := range tasks {
		ops += len(tasks[task])
		if !s.Done(task) {
			t.Errorf("%s: the task %d is not done", written(x.picks), task)
		}
	}
	if len(x.r.Events) != ops || slices.ContainsFunc(x.r.Events, func(e api.Event) bool { return e.Ended < 0 }) {
		t.Errorf("%s: %+v", written(x.picks), x.r.Events)
	}
	if b := judge.Breach(tasks, x.r); b != api.BreachNone {
		t.Errorf("%s: breach %d: %+v", written(x.picks), b, x.r)
	}
}

// others are tasks in which writers and readers meet in other ways than in the example.
func others() [][][]api.Op {
	return [][][]api.Op{
		{{register(), check(), check()}, {revoke(), restore()}},
		{{revoke()}, {newSubject()}, {update("?"), update(small)}},
		{{register(), check(), unregister()}, {register(), version(), check()}, {register(), revoke()}},
		{{register(), check(), revoke(), check()}, {register(), check(), restore()}},
		{{check()}, {update("")}, {register(), unregister()}, {{Kind: 9}}},
	}
}

func TestTheRunsOfOthers(t *testing.T) {
	c := example()
	c.Slots = 2
	for _, tasks := range others() {
		var fewer []run
		for switches := range 2 {
			got := all(c, tasks, switches)
			for i, x := range got {
				wantRun(t, c, tasks, switches, x)
				wantDone(t, c, tasks, x)
				if i > 0 && slices.Compare(got[i-1].picks, x.picks) >= 0 {
					t.Errorf("%s comes behind %s", written(x.picks), written(got[i-1].picks))
				}
				if i > 0 && len(x.picks) > len(got[i-1].picks) && slices.Equal(x.picks[:len(got[i-1].picks)], got[i-1].picks) {
					t.Errorf("%s is a beginning of %s", written(got[i-1].picks), written(x.picks))
				}
			}
			wantAmong(t, fewer, got)
			wantFound(t, c, tasks, switches, 10000, api.Finding{Runs: len(got)}, api.OK)
			if switches == 1 && len(got) < 50 {
				t.Errorf("%d runs", len(got))
			}
			fewer = got
		}
	}
}

// wantAmong asks that more switches have all the runs that fewer have. Both lie in their order.
func wantAmong(t *testing.T, fewer, more []run) {
	t.Helper()
	for _, x := range fewer {
		for len(more) > 0 && slices.Compare(more[0].picks, x.picks) < 0 {
			more = more[1:]
		}
		if len(more) == 0 || !slices.Equal(more[0].picks, x.picks) || !same(more[0].r, x.r) {
			t.Errorf("%s is no run with more switches", written(x.picks))
			return
		}
	}
}

func TestMoreSwitchesHaveTheRunsOfFewer(t *testing.T) {
	for flaw := range 7 {
		c := flawed(example(), flaw)
		fewer := all(c, two(), 0)
		for switches := 1; switches <= 2; switches++ {
			more := all(c, two(), switches)
			if len(more) <= len(fewer) {
				t.Errorf("flaw %d: %d runs with %d switches, %d with one fewer", flaw, len(more), switches, len(fewer))
			}
			wantAmong(t, fewer, more)
			fewer = more
		}
	}
}

// The picks of a run give it again, with a flaw too; at its end no task is ready.
func TestThePicksGiveTheRunAgain(t *testing.T) {
	for flaw := range 7 {
		c := flawed(example(), flaw)
		for _, x := range all(c, two(), 1) {
			wantRun(t, c, two(), 1, x)
		}
	}
}

// W8: of all orders none breaks a promise; with a flaw some do. (FlawTag wants longer tasks than these: those of its example.)
func TestAllOrdersOfDrawnTasks(t *testing.T) {
	orders := 0
	flaws := map[int]int{}
	for seed := range 60 {
		d := dice(9000 + seed)
		c := example()
		c.Slots, c.Sets, c.First = 1+d.throw(2), d.throw(2), 1+d.throw(3)
		tasks := [][]api.Op{{register()}, {of(&d, []api.Op{revoke(), newSubject(), update("")})}}
		for range 1 + d.throw(3) {
			tasks[0] = append(tasks[0], of(&d, []api.Op{check(), check(), version(), restore(), revoke(), newSubject()}))
		}
		if d.throw(5) == 0 {
			tasks = append(tasks, []api.Op{of(&d, []api.Op{revoke(), update("?"), register()})})
		}
		f, e := explore.Find(c, tasks, 1, 1<<40)
		if f.Breach != api.BreachNone || e != api.OK {
			t.Fatalf("seed %d: %+v, %v: %+v", seed, f, e, tasks)
		}
		orders += f.Runs
		for flaw := api.FlawNoWait; flaw <= api.FlawEarlyDone; flaw++ {
			if f, e = explore.Find(flawed(c, flaw), tasks, 1, 100); e == api.OK && f.Breach != api.BreachNone {
				flaws[flaw]++
			}
		}
	}
	if orders < 5000 {
		t.Errorf("%d orders", orders)
	}
	for _, flaw := range []int{api.FlawNoWait, api.FlawEarly, api.FlawLate, api.FlawNoLock, api.FlawEarlyDone} {
		if flaws[flaw] < 5 {
			t.Errorf("flaw %d has broken a promise %d times: %v", flaw, flaws[flaw], flaws)
		}
	}
}
