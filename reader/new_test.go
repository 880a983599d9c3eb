package reader_test

import (
	"math"
	"slices"
	"testing"

	"gatehouse/avc"
	"gatehouse/reader"
)

// 23.1

// wide has so many slots, and the page of most tests behind them.
func wide(t *testing.T, slots int) *reader.Site {
	t.Helper()
	m := fresh(t, 60)
	set(m, 0, 30, 1)
	set(m, 30, laid()...)
	return &reader.Site{Memory: m, Slots: over(t, m, slots)}
}

// both are a check and a version in a slot.
func both(s *reader.Site, slot int, c *avc.Cache) []*reader.Machine {
	return []*reader.Machine{reader.Check(s, slot, c, 2, 3, 1), reader.Check(s, slot, nil, 2, 3, 1), reader.Version(s, slot)}
}

func TestSlotsThatAreNot(t *testing.T) {
	for n := 1; n <= 16; n++ {
		s, c := wide(t, n), cacheOf(t, 2, 2)
		words, trace := allWords(t, s.Memory), s.Memory.Trace()
		for _, slot := range []int{-1, -2, n, n + 1, n + 16, 1 << 32, 1 << 62, -1 << 62, math.MaxInt, math.MinInt} {
			for _, flaw := range flaws() {
				s.Flaw = flaw
				for _, x := range both(s, slot, c) {
					if x != nil {
						t.Errorf("there is a machine in the slot %d of %d, flaw %d", slot, n, flaw)
					}
				}
			}
		}
		if !slices.Equal(allWords(t, s.Memory), words) || !slices.Equal(s.Memory.Trace(), trace) {
			t.Error("something was done for a slot that is not there")
		}
		wantStats(t, c, 0, 0, 0, 0)
	}
}

// A machine that has made no step has done nothing, and knows nothing.
func TestNothingIsAccessedYet(t *testing.T) {
	for n := 1; n <= 16; n++ {
		s, c := wide(t, n), cacheOf(t, 2, 2)
		c.Put(5, 2, 3, 1, true)
		words, trace := allWords(t, s.Memory), s.Memory.Trace()
		for slot := range n {
			for _, flaw := range flaws() {
				s.Flaw = flaw
				for _, x := range both(s, slot, c) {
					wantTold(t, s.Memory, made(t, x), -1, reader.Answer{})
				}
			}
		}
		if !slices.Equal(allWords(t, s.Memory), words) || !slices.Equal(s.Memory.Trace(), trace) {
			t.Error("something was done ahead of the first step")
		}
		wantStats(t, c, 0, 0, 0, 1)
	}
}

// Each slot is marked and cleared by its own machines.
func TestEachSlot(t *testing.T) {
	for n := 1; n <= 16; n++ {
		s := wide(t, n)
		for slot := range n {
			at := numbers(slotsAt + slot)
			x := checkOf(t, s, slot, nil, 2, 3, 1)
			wantRun(t, s.Memory, x, 0, "1 "+at+"=1 0 30 31 48 49 38 39 36 37 33 50 "+at+"=0")
			wantTold(t, s.Memory, x, 2, reader.Answer{Allowed: true, Version: 5, Page: 30})
			x = versionOf(t, s, slot)
			wantRun(t, s.Memory, x, 0, "1 "+at+"=1 0 30 "+at+"=0")
			wantTold(t, s.Memory, x, 2, reader.Answer{Version: 5, Page: 30})
		}
	}
}

// Nobody asks whether a slot is taken: by a section that goes on, by whatever stands there, by another machine.
func TestASlotThatIsTaken(t *testing.T) {
	for _, mark := range corners() {
		s := small(t)
		set(s.Memory, slotsAt, mark)
		x, y := openDoor(t, s, nil), versionOf(t, s, 0)
		wantSteps(t, s.Memory, x, 0, "1 4=1 0")
		wantRun(t, s.Memory, y, 3, "1 4=1 0 10 4=0")
		wantRun(t, s.Memory, x, 8, "10 "+throughPage+" 4=0")
		wantTold(t, s.Memory, x, 2, reader.Answer{Allowed: true, Version: 5, Page: 10})
		wantTold(t, s.Memory, y, 5, reader.Answer{Version: 5, Page: 10})
	}
}

// Many machines of one slot begin one behind the other, and each has steps of its own.
func TestMachinesOfOneSlot(t *testing.T) {
	s := small(t)
	var list []*reader.Machine
	for range 20 {
		list = append(list, openDoor(t, s, nil))
	}
	for now, access := range []string{"1", "4=1", "0", "10", "11", "28", "29", "18", "19", "16", "17", "13", "30", "4=0"} {
		for _, x := range list {
			wantStep(t, s.Memory, x, now, now == 13, access)
		}
	}
	for _, x := range list {
		wantOver(t, s.Memory, x)
		wantTold(t, s.Memory, x, 2, reader.Answer{Allowed: true, Version: 5, Page: 10})
	}
}

// Two sites share nothing but what they were given.
func TestTwoSites(t *testing.T) {
	a, b := small(t), small(t)
	set(b.Memory, pageAt, 6)
	x, y := openDoor(t, a, nil), openDoor(t, b, nil)
	wantSteps(t, a.Memory, x, 0, "1 4=1")
	wantRun(t, b.Memory, y, 5, "1 4=1 0 10 "+throughPage+" 4=0")
	wantRun(t, a.Memory, x, 2, "0 10 "+throughPage+" 4=0")
	wantTold(t, a.Memory, x, 2, reader.Answer{Allowed: true, Version: 5, Page: 10})
	wantTold(t, b.Memory, y, 7, reader.Answer{Allowed: true, Version: 6, Page: 10})
}

// Where there is no site no machine comes, and no panic.
func TestNoSite(t *testing.T) {
	if reader.Check(nil, 0, nil, 2, 3, 1) != nil || reader.Version(nil, 0) != nil {
		t.Error("a machine without a site")
	}
}
