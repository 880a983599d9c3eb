package epoch_test

import (
	"math"
	"testing"

	"gatehouse/api"
	"gatehouse/cells"
	"gatehouse/epoch"
)

// 18.2, 18.3, and of 18.6 what speaks of sections and of Leave

// wantNoEnter asks that a slot is not there.
func wantNoEnter(t *testing.T, m *cells.Memory, s *epoch.Slots, slot int) {
	t.Helper()
	wantTraced(t, m, "Enter()", func() {
		if x, e := s.Enter(slot); x != nil || e != api.ErrSlot {
			t.Errorf("Enter(%d) = %v, %v, want none and ErrSlot", slot, x, e)
		}
	})
}

// A slot that is not there is neither entered nor left, also where there is a word that would be its own.
func TestNoSuchSlot(t *testing.T) {
	for n := 1; n <= 16; n++ {
		m := fresh(t, 60)
		for addr := range 60 {
			set(m, addr, 7)
		}
		was := allWords(t, m)
		s := over(t, m, 59, 20, n)
		for _, slot := range []int{-1, -2, -19, -20, -21, n, n + 1, 16, 17, 39, 40, 1 << 32, -1 << 32, math.MaxInt, math.MaxInt - 19, math.MinInt, math.MinInt + 20, api.Poison} {
			if slot >= 0 && slot < n {
				continue
			}
			wantNoEnter(t, m, s, slot)
			wantLeave(t, m, s, slot, api.ErrSlot)
		}
		wantWords(t, m, was...)
		enter(t, s, n-1)
		wantLeave(t, m, s, n-1, api.OK, stores(20+n-1, 0, 7))
	}
}

// What was loaded is what is stored, at each number, whatever the slot held; a poisoned epoch's word counts as it comes.
func TestSectionOfEachNumber(t *testing.T) {
	for _, now := range corners() {
		for _, old := range corners() {
			for slot := range count {
				slots := make([]int, count)
				slots[slot] = old
				m, s := standing(t, now, slots...)
				x := enter(t, s, slot)
				loaded := loads(at, now)
				if now == api.Poison {
					loaded = loadRefused(at)
				}
				wantBegin(t, m, x, 0, false, 0, loaded)
				wantRow(t, m, now, slots...)
				stored := stores(first+slot, now, old)
				if old == api.Poison {
					stored = storeRefused(first+slot, now)
				} else {
					slots[slot] = now
				}
				wantBegin(t, m, x, 0, true, now, stored)
				wantRow(t, m, now, slots...)
				for range 3 {
					wantBegin(t, m, x, now, true, now)
				}
				wantRow(t, m, now, slots...)
			}
		}
	}
}

// The epoch counts as the first step found it, not as it was at Enter, nor as it is at the second step.
func TestTheEpochOfTheFirstStep(t *testing.T) {
	m, s := standing(t, 5)
	x := enter(t, s, 0)
	set(m, at, 6)
	wantBegin(t, m, x, 0, false, 0, loads(at, 6))
	set(m, at, 7)
	wantMark(t, m, x, 0)
	wantBegin(t, m, x, 0, true, 6, stores(first, 6, 0))
	set(m, at, 8)
	wantBegin(t, m, x, 6, true, 6)
	wantRow(t, m, 8, 6)
}

// Once it has begun no step is an access, and the mark is the one that was stored, whatever becomes of the words.
func TestStepsOnceItHasBegun(t *testing.T) {
	m, s := standing(t, 5)
	x := enter(t, s, 1)
	x.Step()
	x.Step()
	still := func() {
		t.Helper()
		for range 3 {
			wantBegin(t, m, x, 5, true, 5)
		}
	}
	still()
	s.Wait().Step()
	still()
	s.Leave(1)
	still()
	wantRow(t, m, 6)
	set(m, first+1, 9)
	still()
	m.Poison(0, size)
	still()
	m.Clear(0, size)
	still()
	wantRow(t, m, 0)
}

// A mark of 0 is one: the section has begun, though its slot looks free.
func TestAMarkOfNothing(t *testing.T) {
	m, s := standing(t, 0, 3)
	x := enter(t, s, 0)
	wantBegin(t, m, x, 0, false, 0, loads(at, 0))
	wantBegin(t, m, x, 0, true, 0, stores(first, 0, 3))
	set(m, at, 4)
	for range 3 {
		wantBegin(t, m, x, 0, true, 0)
	}
	wantRow(t, m, 4)
}

// Two sections of one slot know nothing of each other but by the words.
func TestTwoSectionsOfOneSlot(t *testing.T) {
	m, s := standing(t, 5)
	x, y := enter(t, s, 0), enter(t, s, 0)
	wantBegin(t, m, x, 0, false, 0, loads(at, 5))
	set(m, at, 8)
	wantBegin(t, m, y, 0, false, 0, loads(at, 8))
	wantBegin(t, m, y, 0, true, 8, stores(first, 8, 0))
	wantBegin(t, m, x, 0, true, 5, stores(first, 5, 8))
	wantMark(t, m, y, 8)
	wantRow(t, m, 8, 5)
	z := enter(t, s, 0)
	wantMark(t, m, z, 0)
	wantLeave(t, m, s, 0, api.OK, stores(first, 0, 5))
	wantMark(t, m, x, 5)
	wantBegin(t, m, z, 0, false, 0, loads(at, 8))
}

// Sections of several slots write each its own.
func TestSectionsOfSeveralSlots(t *testing.T) {
	m, s := standing(t, 5)
	x, y, z := enter(t, s, 0), enter(t, s, 1), enter(t, s, 2)
	wantBegin(t, m, z, 0, false, 0, loads(at, 5))
	wantBegin(t, m, x, 0, false, 0, loads(at, 5))
	set(m, at, 6)
	wantBegin(t, m, y, 0, false, 0, loads(at, 6))
	wantBegin(t, m, x, 0, true, 5, stores(first, 5, 0))
	wantBegin(t, m, y, 0, true, 6, stores(first+1, 6, 0))
	wantRow(t, m, 6, 5, 6, 0)
	wantBegin(t, m, z, 0, true, 5, stores(first+2, 5, 0))
	wantLeave(t, m, s, 1, api.OK, stores(first+1, 0, 6))
	wantRow(t, m, 6, 5, 0, 5)
	wantMark(t, m, y, 6)
}

// A poisoned epoch's word: the load answers Poison, which is stored; so the slot is poisoned, and can't be left until somebody clears it.
func TestTheEpochIsPoisoned(t *testing.T) {
	m, s := standing(t, api.Poison)
	x := enter(t, s, 1)
	wantBegin(t, m, x, 0, false, 0, loadRefused(at))
	m.Clear(at, 1) // what was loaded counts, not what would be there now
	wantBegin(t, m, x, 0, true, api.Poison, stores(first+1, api.Poison, 0))
	wantRow(t, m, 0, 0, api.Poison)
	wantLeave(t, m, s, 1, api.ErrPoison, storeRefused(first+1, 0))
	wantRow(t, m, 0, 0, api.Poison)
	m.Clear(first+1, 1)
	wantLeave(t, m, s, 1, api.OK, stores(first+1, 0, 0))
}

// A poisoned slot: the store is refused, and the section has begun all the same; behind the poison no step stores again.
func TestTheSlotIsPoisoned(t *testing.T) {
	m, s := standing(t, 5, 0, 0, api.Poison)
	x := enter(t, s, 2)
	wantBegin(t, m, x, 0, false, 0, loads(at, 5))
	wantBegin(t, m, x, 0, true, 5, storeRefused(first+2, 5))
	wantRow(t, m, 5, 0, 0, api.Poison)
	m.Clear(first+2, 1)
	wantBegin(t, m, x, 5, true, 5)
	wantRow(t, m, 5)
}

// Only what stands there at the step counts: a slot that was poisoned ahead of it, and is not now, is no fault.
func TestPoisonThatHasGone(t *testing.T) {
	m, s := standing(t, api.Poison, api.Poison)
	x := enter(t, s, 0)
	set(m, at, 5)
	wantBegin(t, m, x, 0, false, 0, loads(at, 5))
	m.Poison(at, 1)
	m.Clear(first, 1)
	wantBegin(t, m, x, 0, true, 5, stores(first, 5, 0))
	wantRow(t, m, api.Poison, 5)
}

// Leave stores 0, whatever stands there, and whether a section is there or not; its answer is that of the store.
func TestLeaveOfEachNumber(t *testing.T) {
	for _, old := range corners() {
		for slot := range count {
			slots := []int{21, 22, 23}
			slots[slot] = old
			m, s := standing(t, 5, slots...)
			if old == api.Poison {
				for range 2 {
					wantLeave(t, m, s, slot, api.ErrPoison, storeRefused(first+slot, 0))
					wantRow(t, m, 5, slots...)
				}
				continue
			}
			wantLeave(t, m, s, slot, api.OK, stores(first+slot, 0, old))
			slots[slot] = 0
			wantRow(t, m, 5, slots...)
			wantLeave(t, m, s, slot, api.OK, stores(first+slot, 0, 0)) // it is a step each time
			wantRow(t, m, 5, slots...)
		}
	}
}

// Leave between a section's steps: the second step marks the slot again.
func TestLeaveAheadOfTheMark(t *testing.T) {
	m, s := standing(t, 5)
	x := enter(t, s, 0)
	x.Step()
	wantLeave(t, m, s, 0, api.OK, stores(first, 0, 0))
	wantBegin(t, m, x, 0, true, 5, stores(first, 5, 0))
	wantRow(t, m, 5, 5)
}
