package store_test

import (
	"math"
	"reflect"
	"slices"
	"testing"

	"gatehouse/api"
	"gatehouse/store"
)

// 25.2, 25.5

func wantDone(t *testing.T, s *store.Store, task int, want bool) {
	t.Helper()
	was := s.Run()
	for range 2 {
		if s.Done(task) != want {
			t.Errorf("Done(%d) = %v", task, !want)
		}
	}
	wantSame(t, s.Run(), was)
}

func wantReady(t *testing.T, s *store.Store, task int, want bool) {
	t.Helper()
	was := s.Run()
	for range 2 {
		if s.Ready(task) != want {
			t.Errorf("Ready(%d) = %v", task, !want)
		}
	}
	wantSame(t, s.Run(), was)
}

// wantIdle picks in vain: a moment passes, and nothing else is done.
func wantIdle(t *testing.T, s *store.Store, task int) {
	t.Helper()
	want := s.Run()
	if s.Pick(task) {
		t.Errorf("Pick(%d) = true", task)
	}
	want.Tasks = append(want.Tasks, task)
	want.Trace = append(want.Trace, api.Access{})
	want.Live = append(want.Live, append([]int{1}, want.Live...)[len(want.Live)])
	wantSame(t, s.Run(), want)
}

func strangers() []int {
	return []int{-1, -2, 2, 3, 64, 1 << 20, 1 << 32, math.MaxInt, math.MinInt}
}

func TestPicksOfNoTask(t *testing.T) {
	s := made(t, config(), tasks())
	for _, task := range strangers() {
		wantIdle(t, s, task)
		wantDone(t, s, task, true)
		wantReady(t, s, task, false)
	}
	toEnd(t, s, 0)
	for range 20 {
		s.Pick(1) // two pieces are out
	}
	for _, task := range append(strangers(), 0) { // 0 is done
		wantIdle(t, s, task)
		wantDone(t, s, task, true)
		wantReady(t, s, task, false)
	}
	toEnd(t, s, 1)
	wantIdle(t, s, 1)
	if e := s.Run().Events[2]; e.Steps != 33 || e.Ended != 9+15+33+10-1 {
		t.Errorf("moments have passed: %+v", e)
	}
}

// Nobody is there.
func TestNoTasks(t *testing.T) {
	for _, none := range [][][]api.Op{nil, {}, make([][]api.Op, 0, 5)} {
		s := made(t, config(), none)
		for _, task := range append(strangers(), 0) {
			wantIdle(t, s, task)
			wantDone(t, s, task, true)
			wantReady(t, s, task, false)
		}
	}
}

// Who has nothing to do is done.
func TestTasksWithoutOperations(t *testing.T) {
	s := made(t, config(), [][]api.Op{nil, {}, {register()}})
	for _, task := range []int{0, 1} {
		wantDone(t, s, task, true)
		wantReady(t, s, task, false)
		wantIdle(t, s, task)
	}
	wantDone(t, s, 2, false)
	wantReady(t, s, 2, true)
	if !s.Pick(2) {
		t.Error("no step")
	}
	if e := s.Run().Events[0]; e.Task != 2 || e.Began != 2 || e.Ended != 2 {
		t.Errorf("%+v", e)
	}
	wantDone(t, s, 2, true)
	wantIdle(t, s, 2)
}

// Each pick is a step of the task that it names: each of them comes to its end by as many picks as it has steps.
func TestPicksAreSteps(t *testing.T) {
	s := made(t, config(), tasks())
	for i := range 33 {
		for task, steps := range []int{15, 33} {
			wantDone(t, s, task, i >= steps)
			if i < 15 || task == 1 && i >= 15 { // the revoke waits for nothing: the check ends ahead
				if got := s.Pick(task); got != (i < steps) {
					t.Errorf("step %d: Pick(%d) = %v", i, task, got)
				}
			}
		}
	}
	for _, task := range []int{0, 1} {
		wantDone(t, s, task, true)
		wantReady(t, s, task, false)
	}
	if r := s.Run(); len(r.Trace) != 48 || slices.Contains(r.Trace, api.Access{}) {
		t.Errorf("%d accesses", len(r.Trace))
	}
}

// An operation begins with its first step, and the next one with the next pick.
func TestOneOperationBehindAnother(t *testing.T) {
	s := made(t, config(), one(register(), version(), unregister(), version(), version()))
	began := []int{0, 1, 6, 7, 8}
	for now := range 9 {
		if !s.Pick(0) {
			t.Fatalf("moment %d: no step", now)
		}
		events := s.Run().Events
		for i, e := range events {
			if e.Number != i || e.Began != began[i] {
				t.Errorf("moment %d: event %d is %+v", now, i, e)
			}
			end := append(began, 9)[i+1] - 1
			if want := now >= end; (e.Ended >= 0) != want || want && e.Ended != end || e.Steps != min(now, end)-e.Began+1 {
				t.Errorf("moment %d: event %d is %+v", now, i, e)
			}
		}
		if began[len(events)-1] > now || len(events) < 5 && began[len(events)] <= now {
			t.Errorf("moment %d: %d events", now, len(events))
		}
	}
	wantDone(t, s, 0, true)
}

// Ready: a writer waits for the lock, and for sections; asked by an own look at the words ahead of each step, in many orders.
func TestReadyByTheWords(t *testing.T) {
	c := api.Config{Text: small, Slots: 2, Words: 200, First: 1, Disk: 4000}
	list := [][]api.Op{{register(), check(door), version(), unregister(), check(door)}, {register(), version(), check(door)}, {revoke(door), update("?"), update(small)}, {update(small), apply(newSubject("eve"))}}
	for seed := range 30 {
		d := dice(seed)
		s := made(t, c, list)
		task, vain, moments := 0, 0, 0
		for !(s.Done(0) && s.Done(1) && s.Done(2) && s.Done(3)) && moments < 3000 {
			if d.throw(4) == 0 {
				task = d.throw(4)
			}
			ready, done := s.Ready(task), s.Done(task)
			was := replay(s.Run(), c.Words)
			s.Pick(task)
			moments++
			x := s.Run().Trace
			look := was.inVain(task, x[len(x)-1])
			if done {
				if ready {
					t.Fatalf("seed %d: a task that is done is ready", seed)
				}
				continue
			}
			if ready == look {
				t.Fatalf("seed %d, moment %d: Ready(%d) = %v, and its access was %s", seed, moments-1, task, ready, say(x[len(x)-1]))
			}
			if look {
				vain++
			}
		}
		if vain < 5 || moments == 3000 {
			t.Errorf("seed %d: %d looks in vain in %d moments", seed, vain, moments)
		}
	}
}

// replayed are the fixed words as a trace leaves them, and each task's newest ticket.
type replayed struct {
	words   []int
	tickets map[int]int
}

func replay(r api.Run, n int) replayed {
	w := replayed{words: make([]int, n), tickets: map[int]int{}}
	w.words[epochAt] = 1
	for i, x := range r.Trace {
		switch {
		case !x.Good:
		case x.Kind == api.AccessStore || x.Kind == api.AccessSwap:
			w.words[x.Addr] = x.Value
		case x.Kind == api.AccessAdd:
			if x.Addr == ticketAt {
				w.tickets[r.Tasks[i]] = w.words[ticketAt]
			}
			w.words[x.Addr] += x.Value
		}
	}
	return w
}

// inVain tells a load of the word that is served which does not bring the task's own ticket, and one of a slot that holds a mark below the epoch. (A reader loads neither.)
func (w replayed) inVain(task int, x api.Access) bool {
	if x.Kind != api.AccessLoad {
		return false
	}
	switch x.Addr {
	case servedAt:
		return x.Value != w.tickets[task]
	case slotsAt, slotsAt + 1:
		return x.Value != 0 && x.Value < w.words[epochAt]
	}
	return false
}

// Who is ready and is picked goes on: whoever picks only those comes to the end of all, without a look in vain.
func TestReadyTasksGoOn(t *testing.T) {
	c := api.Config{Text: small, Slots: 2, Sets: 1, Ways: 1, Words: 200, First: 1, Disk: 4000}
	list := [][]api.Op{{register(), check(door), check(door), unregister()}, {register(), check(door), version()}, {revoke(door), update(small)}, {apply(newSubject("eve")), revoke(door)}}
	steps := -1
	for seed := range 100 {
		d := dice(seed)
		s := made(t, c, list)
		for moments := 0; ; moments++ {
			var ready []int
			for task := range list {
				if s.Ready(task) {
					ready = append(ready, task)
				}
			}
			if len(ready) == 0 || moments > 3000 {
				break
			}
			s.Pick(of(&d, ready))
		}
		r := s.Run()
		for i := range list {
			wantDone(t, s, i, true)
		}
		n := 0
		for _, e := range r.Events {
			if e.Kind == api.OpRevoke || e.Kind == api.OpApply || e.Kind == api.OpUpdate {
				n += e.Steps
			}
		}
		if r.Versions[len(r.Versions)-1].Number != 5 {
			t.Fatalf("seed %d: %d versions", seed, len(r.Versions))
		}
		size := 0
		for _, v := range r.Versions[1:] {
			size += store.WriteSteps(v.Size, 2)
		}
		if n != size {
			t.Errorf("seed %d: the writes have made %d steps, want %d", seed, n, size)
		}
		steps = max(steps, n)
	}
	if steps < 0 {
		t.Error("nothing was done")
	}
}

// What a store answers hangs on its picks alone.
func TestTheSamePicksAgain(t *testing.T) {
	list := picks(t, "0:4 1:31 7 0:3 -1 1 0:8 1:5")
	x, y := made(t, config(), tasks()), made(t, config(), tasks())
	for _, task := range list {
		if x.Ready(task) != y.Ready(task) || x.Done(task) != y.Done(task) || x.Pick(task) != y.Pick(task) {
			t.Fatalf("Pick(%d) is not the same again", task)
		}
	}
	if !reflect.DeepEqual(x.Run(), y.Run()) || !reflect.DeepEqual(x.Run(), store.Play(config(), tasks(), list)) {
		t.Error("the runs are not the same")
	}
}
