package store_test

import (
	"fmt"
	"slices"
	"strings"
	"testing"

	"gatehouse/api"
)

// 25.3: slots.

// roomy is the chapter's configuration with so many slots, and room for some pages.
func roomy(slots int) api.Config {
	c := config()
	c.Slots, c.Words, c.Disk = slots, 200, 4000
	return c
}

// A register tries the slots in turn, a step each, and takes the first one that nobody has.
func TestRegisterTakesTheFirstFreeSlot(t *testing.T) {
	for slots := 1; slots <= 16; slots++ {
		list := make([][]api.Op, slots+2)
		for i := range list {
			list[i] = []api.Op{register(), unregister()}
		}
		s := made(t, roomy(slots), list)
		now := 0
		for task := range slots + 2 { // one behind the other
			steps := min(task+1, slots)
			want := api.Event{Task: task, Kind: api.OpRegister, Began: now, Ended: now + steps - 1, Point: -1, Steps: steps, Version: task}
			if task >= slots {
				want.Code, want.Version = api.ErrSlots, 0
			}
			for range steps {
				s.Pick(task)
			}
			now += steps
			if e := s.Run().Events[task]; e != want {
				t.Errorf("%d slots: %+v, want %+v", slots, e, want)
			}
			for i := range steps {
				x := s.Run().Trace[now-steps+i]
				entry := api.Access{Kind: api.AccessSwap, Addr: 4 + slots + i, Value: task + 1, Old: i + 1}
				if i == task {
					entry.Old, entry.Good = 0, true
				}
				if x != entry {
					t.Errorf("%d slots: %+v, want %+v", slots, x, entry)
				}
			}
		}
	}
}

// Whoever has a slot gets no other one, whoever has none gives none back.
func TestHeldAndNotHeld(t *testing.T) {
	r := finished(t, roomy(3), unregister(), register(), register(), register(), unregister(), unregister(), unregister(), register(), unregister())
	if want := []api.Errno{api.ErrSlot, api.OK, api.ErrHeld, api.ErrHeld, api.OK, api.ErrSlot, api.ErrSlot, api.OK, api.OK}; !slices.Equal(codes(r), want) {
		t.Errorf("the codes are %v, want %v", codes(r), want)
	}
	if want := "-, swap 7 1, -, -, store 7 0, -, -, swap 7 1, store 7 0"; strings.Join(sayAll(r.Trace), ", ") != want {
		t.Errorf("the accesses are %v, want %s", sayAll(r.Trace), want)
	}
	for i, e := range r.Events {
		want := api.Event{Number: i, Kind: e.Kind, Began: i, Ended: i, Point: -1, Steps: 1, Code: e.Code}
		if e != want {
			t.Errorf("%+v, want %+v", e, want)
		}
	}
	if x := r.Trace[4]; x.Old != 1 || x.Value != 0 || !x.Good {
		t.Errorf("the owner's word: %+v", x)
	}
}

// A slot that was given back is had by the next one who asks, the lowest first; a register that was refused may be tried again.
func TestSlotsThatWereGivenBack(t *testing.T) {
	list := [][]api.Op{{register(), unregister(), register()}, {register(), unregister()}, {register(), register(), register()}}
	s := made(t, roomy(2), list)
	var got []string
	for _, task := range []int{0, 1, 1, 2, 2, 0, 2, 0, 0, 1, 0} {
		s.Pick(task)
		events := s.Run().Events
		for i := len(got); i < len(events) && events[i].Ended >= 0; i++ {
			got = append(got, fmt.Sprintf("%d: %d %d", events[i].Task, int(events[i].Code), events[i].Version))
		}
	}
	// 0 and 1 have the slots, 2 gets none; 0 gives its own back, 2 takes that, 0 gets none.
	want := []string{"0: 0 0", "1: 0 1", "2: 180 0", "0: 0 0", "2: 0 0", "0: 180 0", "1: 0 0"}
	if !slices.Equal(got, want) {
		t.Errorf("the events are %v, want %v", got, want)
	}
}

// Two registers step by step: whoever swaps first has the slot; the other one goes on to the next.
func TestRegistersAtOnce(t *testing.T) {
	list := [][]api.Op{{register(), version()}, {register(), version()}, {register(), version()}}
	s := made(t, roomy(3), list)
	for _, task := range []int{2, 0, 1, 1, 0, 1, 0} {
		s.Pick(task)
	}
	r := s.Run()
	wantEvents(t, r,
		api.Event{Task: 2, Kind: api.OpRegister, Began: 0, Ended: 0, Point: -1, Steps: 1, Version: 0},
		api.Event{Task: 0, Kind: api.OpRegister, Began: 1, Ended: 6, Point: -1, Steps: 3, Version: 2},
		api.Event{Task: 1, Kind: api.OpRegister, Began: 2, Ended: 3, Point: -1, Steps: 2, Version: 1},
		api.Event{Task: 1, Number: 1, Kind: api.OpVersion, Began: 5, Ended: -1, Point: -1, Steps: 1},
	)
}

// A read marks the slot that its task has.
func TestReadsInTheirSlots(t *testing.T) {
	list := make([][]api.Op, 4)
	for i := range list {
		list[i] = []api.Op{register(), version(), check(door)}
	}
	s := made(t, roomy(4), list)
	order := []int{2, 0, 3, 1}
	for _, task := range order {
		toEnd(t, s, task)
	}
	r := s.Run()
	at := map[int]int{}
	for i, task := range order {
		at[task] = 4 + i
	}
	seen := 0
	for i, x := range r.Trace {
		if x.Kind == api.AccessStore {
			seen++
			if x.Addr != at[r.Tasks[i]] {
				t.Errorf("moment %d: %s by the task %d", i, say(x), r.Tasks[i])
			}
		}
	}
	if seen != 16 {
		t.Errorf("%d stores", seen)
	}
}

// A task's cache is new with each register, and gone with the unregister.
func TestCaches(t *testing.T) {
	c := roomy(2)
	c.Sets, c.Ways = 1, 2
	eve := api.Triple{Subject: "eve", Object: "door", Action: "open"}
	s := made(t, c, [][]api.Op{
		{register(), check(door), check(door), check(eve), version(), check(eve), unregister(), register(), check(door), unregister()},
		{register(), check(door), check(door)},
	})
	var got []string
	for !s.Done(0) {
		s.Pick(0)
		r := s.Run()
		if e := r.Events[len(r.Events)-1]; e.Ended >= 0 {
			got = append(got, fmt.Sprint(e.Hit, e.Allowed, r.Stats))
		}
		if e := r.Events[len(r.Events)-1]; e.Kind == api.OpUnregister && e.Number == 6 {
			s.Pick(1) // takes the slot 0
		}
	}
	want := []string{
		"false false [{0 0 0 0} {0 0 0 0}]",
		"false true [{0 1 0 1} {0 0 0 0}]",
		"true true [{1 1 0 1} {0 0 0 0}]",
		"false false [{1 2 0 2} {0 0 0 0}]",
		"false false [{1 2 0 2} {0 0 0 0}]",
		"true false [{2 2 0 2} {0 0 0 0}]",
		"false false [{0 0 0 0} {0 0 0 0}]",
		"false false [{0 0 0 0} {0 0 0 0}]", // the slot 1 now
		"false true [{0 0 0 0} {0 1 0 1}]",
		"false false [{0 0 0 0} {0 0 0 0}]",
	}
	if !slices.Equal(got, want) {
		t.Errorf("%v, want %v", strings.Join(got, "\n"), strings.Join(want, "\n"))
	}
	toEnd(t, s, 1)
	if r := s.Run(); !slices.Equal(r.Stats, []api.Stats{{Hits: 1, Misses: 1, Held: 1}, {}}) {
		t.Errorf("Stats %v", r.Stats)
	}
}

// A cache has the configuration's shape: with more checks than places some go.
func TestTheShapeOfCaches(t *testing.T) {
	for _, c := range []struct{ sets, ways, held, evictions int }{{1, 1, 1, 9}, {1, 3, 3, 7}, {1, 8, 8, 2}, {256, 1, 10, 0}, {0, 1, 0, 0}} {
		x := roomy(1)
		x.Sets, x.Ways = c.sets, c.ways
		ops := []api.Op{register()}
		for i := range 10 {
			ops = append(ops, check(api.Triple{Subject: fmt.Sprint("s", i), Object: "door", Action: "open"}))
		}
		r := finished(t, x, ops...)
		want := api.Stats{Misses: 10, Evictions: c.evictions, Held: c.held}
		if c.sets == 0 {
			want = api.Stats{}
		}
		if r.Stats[0] != want {
			t.Errorf("%d sets of %d: %+v, want %+v", c.sets, c.ways, r.Stats[0], want)
		}
	}
}

// In the middle of a check the cache has been asked or not, and Stats tells it.
func TestStatsInTheMiddle(t *testing.T) {
	c := roomy(1)
	c.Sets, c.Ways = 2, 1
	s := made(t, c, one(register(), check(door), check(door)))
	var misses, held []int
	for range 20 {
		s.Pick(0)
		x := s.Run().Stats[0]
		misses, held = append(misses, x.Misses+10*x.Hits), append(held, x.Held)
	}
	if want := picks(t, "0:4 1:14 11:2"); !slices.Equal(misses, want) {
		t.Errorf("misses and hits: %v, want %v", misses, want)
	}
	if want := picks(t, "0:13 1:7"); !slices.Equal(held, want) {
		t.Errorf("held: %v, want %v", held, want)
	}
}

// The owner's word has the task's number and 1, also of the last task that may be.
func TestOwners(t *testing.T) {
	list := make([][]api.Op, 64)
	list[63] = []api.Op{register(), unregister()}
	s := made(t, roomy(1), list)
	toEnd(t, s, 63)
	wantTrace(t, s.Run(), 0, "swap 5 64, store 5 0")
	if x := s.Run().Trace[1]; x.Old != 64 {
		t.Errorf("%+v", x)
	}
}

// Reads without a slot, ahead of a register and behind an unregister, are one step without an access.
func TestReadsWithoutASlot(t *testing.T) {
	for _, op := range []api.Op{check(door), version(), check(api.Triple{})} {
		s := made(t, roomy(1), one(op, register(), op, unregister(), op))
		toEnd(t, s, 0)
		r := s.Run()
		last := len(r.Trace) - 1
		for i, at := range []int{0, last} {
			want := api.Event{Number: 4 * i, Kind: op.Kind, Began: at, Ended: at, Point: -1, Steps: 1, Code: api.ErrSlot}
			if e := r.Events[4*i]; e != want || r.Trace[at] != (api.Access{}) {
				t.Errorf("%+v, want %+v; %s", e, want, say(r.Trace[at]))
			}
		}
		if e := r.Events[2]; e.Code != api.OK || e.Version != 5 {
			t.Errorf("%+v", e)
		}
	}
}
