package epoch_test

import (
	"math"
	"testing"

	"gatehouse/api"
)

// 18.4, 18.5, and of 18.6 what speaks of grace periods

// What a slot holds lets a period go, if it is 0 or not less than the period's epoch, which is 1 more than what stood there.
func TestLooksOfEachNumber(t *testing.T) {
	for _, now := range corners() {
		since := now + 1 // R7: behind the greatest int it wraps round
		marks := append(corners(), now, since, since+1, since-2)
		for _, mark := range marks {
			for slot := range count {
				slots := make([]int, count)
				slots[slot] = mark
				m, s := standing(t, now, slots...)
				g := s.Wait()
				wantAsked(t, m, g, -1, true)
				raised, added := since, adds(at, now)
				if now == api.Poison {
					raised, added = now, addRefused(at)
				}
				wantStep(t, m, g, false, 0, added)
				for ahead := range slot {
					wantAsked(t, m, g, ahead, true)
					wantStep(t, m, g, false, ahead+1, loads(first+ahead, 0))
				}
				looked := loads(first+slot, mark)
				if mark == api.Poison {
					looked = loadRefused(first + slot)
				}
				if mark != 0 && mark < since {
					for range 2 {
						wantAsked(t, m, g, slot, false)
						wantStep(t, m, g, false, slot, looked)
					}
				} else if wantAsked(t, m, g, slot, true); slot == count-1 {
					wantStep(t, m, g, true, -1, looked)
					wantAsked(t, m, g, -1, true)
				} else {
					wantStep(t, m, g, false, slot+1, looked)
					wantAsked(t, m, g, slot+1, true)
				}
				wantRow(t, m, raised, slots...)
			}
		}
	}
}

// A slot that holds just the epoch, more, less, and what is below 0.
func TestLooksNearTheEpoch(t *testing.T) {
	for _, c := range []struct {
		mark int
		vain bool
	}{{0, false}, {6, false}, {7, false}, {math.MaxInt, false}, {5, true}, {1, true}, {-1, true}, {-6, true}, {math.MinInt, true}} {
		m, s := standing(t, 5, c.mark)
		g := s.Wait()
		wantStep(t, m, g, false, 0, adds(at, 5))
		wantAsked(t, m, g, 0, !c.vain)
		next := 1
		if c.vain {
			next = 0
		}
		wantStep(t, m, g, false, next, loads(first, c.mark))
	}
}

// With nobody there a period is a step, and one for each slot; behind them it steps no more.
func TestPeriodsOfAllSizes(t *testing.T) {
	for n := 1; n <= 16; n++ {
		m := fresh(t, n+1)
		s := over(t, m, n, 0, n)
		for round := range 3 {
			g := s.Wait()
			wantAsked(t, m, g, -1, true)
			wantStep(t, m, g, false, 0, adds(n, round))
			for slot := range n - 1 {
				wantAsked(t, m, g, slot, true)
				wantStep(t, m, g, false, slot+1, loads(slot, 0))
			}
			wantAsked(t, m, g, n-1, true)
			wantStep(t, m, g, true, -1, loads(n-1, 0))
			for range 3 {
				wantAsked(t, m, g, -1, true)
				wantStep(t, m, g, true, -1)
			}
		}
	}
}

// Once it is over nothing is accessed, whatever becomes of the words.
func TestStepsOnceItIsOver(t *testing.T) {
	m, s := standing(t, 5)
	g := s.Wait()
	for range 4 {
		g.Step()
	}
	still := func() {
		t.Helper()
		for range 3 {
			wantAsked(t, m, g, -1, true)
			wantStep(t, m, g, true, -1)
		}
	}
	still()
	for slot := range count {
		set(m, first+slot, 1)
	}
	still()
	set(m, at, -9)
	still()
	m.Poison(0, size)
	still()
}

// Each look in vain is an access; the slots ahead of it are not asked again, those behind it not yet.
func TestLooksInVain(t *testing.T) {
	m, s := standing(t, 5, 0, 5, 5)
	g := s.Wait()
	wantStep(t, m, g, false, 0, adds(at, 5))
	wantStep(t, m, g, false, 1, loads(first, 0))
	set(m, first, 1) // behind the look: nobody asks again
	for range 40 {
		wantAsked(t, m, g, 1, false)
		wantStep(t, m, g, false, 1, loads(first+1, 5))
	}
	set(m, first+2, 0)
	wantAsked(t, m, g, 1, false)
	set(m, first+2, 5)
	set(m, first+1, 6)
	wantStep(t, m, g, false, 2, loads(first+1, 6))
	set(m, first+1, 5)
	for range 3 {
		wantAsked(t, m, g, 2, false)
		wantStep(t, m, g, false, 2, loads(first+2, 5))
	}
	wantLeave(t, m, s, 2, api.OK, stores(first+2, 0, 5))
	wantStep(t, m, g, true, -1, loads(first+2, 0))
	wantRow(t, m, 6, 1, 5, 0)
}

// Its epoch is fixed by its first step, not by Wait, nor by what the word is later.
func TestTheEpochOfAPeriod(t *testing.T) {
	m, s := standing(t, 5, 8)
	g := s.Wait()
	set(m, at, 8)
	wantStep(t, m, g, false, 0, adds(at, 8))
	set(m, at, 2)
	wantAsked(t, m, g, 0, false)
	wantStep(t, m, g, false, 0, loads(first, 8))
	set(m, at, 100)
	set(m, first, 9)
	wantAsked(t, m, g, 0, true)
	wantStep(t, m, g, false, 1, loads(first, 9))
	wantRow(t, m, 100, 9)
}

// Ready tells what the slot holds now, not what a look found.
func TestReadyIsOfNow(t *testing.T) {
	m, s := standing(t, 5, 5)
	g := s.Wait()
	wantAsked(t, m, g, -1, true)
	g.Step()
	for _, c := range []struct {
		mark  int
		ready bool
	}{{5, false}, {0, true}, {4, false}, {6, true}, {api.Poison, false}, {math.MaxInt, true}, {-1, false}, {0, true}, {5, false}} {
		set(m, first, c.mark)
		wantAsked(t, m, g, 0, c.ready)
	}
	wantStep(t, m, g, false, 0, loads(first, 5))
	m.Clear(first, 1)
	wantAsked(t, m, g, 0, true)
	m.Poison(first+1, 2) // of the slots behind it nobody asks yet
	wantAsked(t, m, g, 0, true)
	wantStep(t, m, g, false, 1, loads(first, 0))
	wantAsked(t, m, g, 1, false)
}

// Several periods have an epoch each, and wait for what is older than their own.
func TestSeveralPeriods(t *testing.T) {
	m, s := standing(t, 5)
	g, h, k := s.Wait(), s.Wait(), s.Wait()
	wantStep(t, m, h, false, 0, adds(at, 5))
	x := enter(t, s, 0)
	wantBegin(t, m, x, 0, false, 0, loads(at, 6))
	wantStep(t, m, g, false, 0, adds(at, 6))
	wantBegin(t, m, x, 0, true, 6, stores(first, 6, 0))
	wantAsked(t, m, k, -1, true)
	wantAsked(t, m, h, 0, true)
	wantAsked(t, m, g, 0, false)
	wantStep(t, m, g, false, 0, loads(first, 6))
	wantStep(t, m, h, false, 1, loads(first, 6))
	wantStep(t, m, k, false, 0, adds(at, 7))
	wantAsked(t, m, k, 0, false)
	wantLeave(t, m, s, 0, api.OK, stores(first, 0, 6))
	wantStep(t, m, k, false, 1, loads(first, 0))
	wantStep(t, m, g, false, 1, loads(first, 0))
	wantRow(t, m, 8)
}

// At the greatest int the epoch wraps round; every number is at least the least one: nobody is waited for.
func TestTheEpochWrapsRound(t *testing.T) {
	m, s := standing(t, math.MaxInt, math.MaxInt, math.MinInt, -1)
	g := s.Wait()
	wantStep(t, m, g, false, 0, adds(at, math.MaxInt))
	wantAsked(t, m, g, 0, true)
	wantStep(t, m, g, false, 1, loads(first, math.MaxInt))
	wantStep(t, m, g, false, 2, loads(first+1, math.MinInt))
	wantStep(t, m, g, true, -1, loads(first+2, -1))
	wantRow(t, m, math.MinInt, math.MaxInt, math.MinInt, -1)
	h := s.Wait()
	wantStep(t, m, h, false, 0, adds(at, math.MinInt))
	wantStep(t, m, h, false, 1, loads(first, math.MaxInt))
	wantStep(t, m, h, false, 1, loads(first+1, math.MinInt)) // less than its epoch, the least one and 1
}

// A poisoned epoch's word: the Add changes nothing, and Poison stood there; so the epoch is 1 more than Poison.
func TestAddToAPoisonedEpoch(t *testing.T) {
	m, s := standing(t, api.Poison, api.Poison+1, api.Poison-1, api.Poison)
	g := s.Wait()
	wantAsked(t, m, g, -1, true)
	wantStep(t, m, g, false, 0, addRefused(at))
	set(m, at, 50) // the step is made: it does not add again
	wantStep(t, m, g, false, 1, loads(first, api.Poison+1))
	wantAsked(t, m, g, 1, false)
	wantStep(t, m, g, false, 1, loads(first+1, api.Poison-1))
	set(m, first+1, 3)
	wantStep(t, m, g, false, 2, loads(first+1, 3))
	wantAsked(t, m, g, 2, false)
	wantStep(t, m, g, false, 2, loadRefused(first+2))
	m.Clear(first+2, 1)
	wantStep(t, m, g, true, -1, loads(first+2, 0))
	wantRow(t, m, 50, api.Poison+1, 3)
}

// A poisoned slot: the look finds Poison, which is older than a usual epoch; each look is refused, and in vain, until the poison is gone.
func TestLookAtAPoisonedSlot(t *testing.T) {
	m, s := standing(t, 5, 0, api.Poison)
	g := s.Wait()
	g.Step()
	g.Step()
	for range 3 {
		wantAsked(t, m, g, 1, false)
		wantStep(t, m, g, false, 1, loadRefused(first+1))
	}
	wantLeave(t, m, s, 1, api.ErrPoison, storeRefused(first+1, 0))
	wantAsked(t, m, g, 1, false)
	set(m, first+1, 5)
	wantAsked(t, m, g, 1, false)
	wantStep(t, m, g, false, 1, loads(first+1, 5))
	m.Clear(first+1, 1)
	wantAsked(t, m, g, 1, true)
	wantStep(t, m, g, false, 2, loads(first+1, 0))
}

// A poisoned slot lets go whose epoch is Poison or less: what was loaded counts, though the load is refused.
func TestAPoisonedSlotThatLetsGo(t *testing.T) {
	for _, now := range []int{api.Poison - 1, api.Poison - 2, math.MinInt, math.MaxInt} {
		m, s := standing(t, now, 0, 0, api.Poison)
		g := s.Wait()
		wantStep(t, m, g, false, 0, adds(at, now))
		g.Step()
		g.Step()
		wantAsked(t, m, g, 2, true)
		wantStep(t, m, g, true, -1, loadRefused(first+2))
		wantAsked(t, m, g, -1, true)
		wantRow(t, m, now+1, 0, 0, api.Poison)
	}
}

// An epoch below 0: from -1 on it is 0 next; what is below 0 holds it up, and 0 itself nobody.
func TestAnEpochBelowNothing(t *testing.T) {
	m, s := standing(t, -1, -1, 1, 0)
	g := s.Wait()
	wantStep(t, m, g, false, 0, adds(at, -1))
	wantAsked(t, m, g, 0, false)
	wantStep(t, m, g, false, 0, loads(first, -1))
	x := enter(t, s, 0)
	wantBegin(t, m, x, 0, false, 0, loads(at, 0))
	wantBegin(t, m, x, 0, true, 0, stores(first, 0, -1))
	wantStep(t, m, g, false, 1, loads(first, 0))
	wantStep(t, m, g, false, 2, loads(first+1, 1))
	wantStep(t, m, g, true, -1, loads(first+2, 0))
}
