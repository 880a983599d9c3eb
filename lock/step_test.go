package lock_test

import (
	"math"
	"testing"

	"gatehouse/api"
)

// 17.2, 17.3, 17.4

// The ticket is what stood there, at each number; it is served just where the other word is the same.
func TestTicketsOfEachNumber(t *testing.T) {
	for _, x := range corners() {
		for _, y := range corners() {
			m, l := standing(t, x, y)
			w := l.Enter()
			wantAsked(t, m, w, -1, true)
			wantStep(t, m, w, false, adds(next, x))
			wantAsked(t, m, w, x, x == y)
			wantWords(t, m, 0, 0, x+1, y)
			wantStep(t, m, w, x == y, loads(serving, y))
			wantAsked(t, m, w, x, x == y)
			wantWords(t, m, 0, 0, x+1, y)
		}
	}
}

// A ticket of -1 is a ticket: no step draws another.
func TestTicketOfMinusOne(t *testing.T) {
	m, l := standing(t, -1, -3)
	w := l.Enter()
	wantAsked(t, m, w, -1, true)
	wantStep(t, m, w, false, adds(next, -1))
	wantAsked(t, m, w, -1, false)
	wantStep(t, m, w, false, loads(serving, -3))
	wantLeave(t, m, l, api.OK, adds(serving, -3))
	wantAsked(t, m, w, -1, false)
	wantStep(t, m, w, false, loads(serving, -2))
	wantLeave(t, m, l, api.OK, adds(serving, -2))
	wantAsked(t, m, w, -1, true)
	wantStep(t, m, w, true, loads(serving, -1))
	wantStep(t, m, w, true)
	wantAsked(t, m, w, -1, true)
	wantWords(t, m, 0, 0, 0, -1)
}

// The words wrap round behind the greatest number (R7).
func TestTicketsWrapRound(t *testing.T) {
	m, l := standing(t, math.MaxInt, math.MaxInt)
	a, b, c := l.Enter(), l.Enter(), l.Enter()
	wantStep(t, m, a, false, adds(next, math.MaxInt))
	wantStep(t, m, b, false, adds(next, math.MinInt))
	wantStep(t, m, c, false, adds(next, math.MinInt+1))
	wantStep(t, m, b, false, loads(serving, math.MaxInt))
	wantStep(t, m, a, true, loads(serving, math.MaxInt))
	wantLeave(t, m, l, api.OK, adds(serving, math.MaxInt))
	wantAsked(t, m, b, math.MinInt, true)
	wantAsked(t, m, c, math.MinInt+1, false)
	wantStep(t, m, c, false, loads(serving, math.MinInt))
	wantStep(t, m, b, true, loads(serving, math.MinInt))
	wantLeave(t, m, l, api.OK, adds(serving, math.MinInt))
	wantStep(t, m, c, true, loads(serving, math.MinInt+1))
	wantWords(t, m, 0, 0, math.MinInt+2, math.MinInt+1)
}

// Each look in vain is an access; a waiter that is not served waits however often it is stepped.
func TestLooksInVain(t *testing.T) {
	m, l := standing(t, 1, 0)
	w := l.Enter()
	wantStep(t, m, w, false, adds(next, 1))
	for range 50 {
		wantAsked(t, m, w, 1, false)
		wantStep(t, m, w, false, loads(serving, 0))
	}
	wantWords(t, m, 0, 0, 2, 0)
	wantLeave(t, m, l, api.OK, adds(serving, 0))
	wantStep(t, m, w, true, loads(serving, 1))
}

// Once it holds no step is an access, whatever becomes of the words.
func TestStepsOnceItHolds(t *testing.T) {
	m, l := standing(t, 4, 4)
	w := l.Enter()
	w.Step()
	wantStep(t, m, w, true, loads(serving, 4))
	still := func() {
		t.Helper()
		for range 3 {
			wantAsked(t, m, w, 4, true)
			wantStep(t, m, w, true)
		}
	}
	still()
	l.Leave()
	still()
	l.Leave()
	still()
	set(m, next, 4)
	set(m, serving, 0)
	still()
	m.Poison(0, 4)
	still()
	wantWords(t, m, api.Poison, api.Poison, api.Poison, api.Poison)
}

// While the word next is poisoned each step is a refused access, and gives no ticket; then one does.
func TestNextIsPoisoned(t *testing.T) {
	m, l := standing(t, api.Poison, 6)
	w := l.Enter()
	for range 3 {
		wantAsked(t, m, w, -1, true)
		wantStep(t, m, w, false, addRefused(next))
	}
	wantAsked(t, m, w, -1, true)
	wantWords(t, m, 0, 0, api.Poison, 6)
	set(m, next, 6)
	wantAsked(t, m, w, -1, true)
	wantStep(t, m, w, false, adds(next, 6))
	wantAsked(t, m, w, 6, true)
	m.Poison(next, 1) // who has a ticket does not ask for that word again
	wantAsked(t, m, w, 6, true)
	wantStep(t, m, w, true, loads(serving, 6))
	wantAsked(t, m, w, 6, true)
}

// A refused first step leaves nothing behind: the tickets go to those who come behind the poison, in their order.
func TestNextIsPoisonedForOneAlone(t *testing.T) {
	m, l := standing(t, 0, 0)
	a, b := l.Enter(), l.Enter()
	m.Poison(next, 1)
	wantStep(t, m, a, false, addRefused(next))
	m.Clear(next, 1)
	wantStep(t, m, b, false, adds(next, 0))
	wantStep(t, m, a, false, adds(next, 1))
	wantStep(t, m, a, false, loads(serving, 0))
	wantStep(t, m, b, true, loads(serving, 0))
}

// While the word serving is poisoned each look is refused and in vain; the ticket stays.
func TestServingIsPoisoned(t *testing.T) {
	m, l := standing(t, 8, api.Poison)
	w := l.Enter()
	wantAsked(t, m, w, -1, true)
	wantStep(t, m, w, false, adds(next, 8))
	for range 3 {
		wantAsked(t, m, w, 8, false)
		wantStep(t, m, w, false, loadRefused(serving))
	}
	wantWords(t, m, 0, 0, 9, api.Poison)
	set(m, serving, 7)
	wantAsked(t, m, w, 8, false)
	wantStep(t, m, w, false, loads(serving, 7))
	m.Poison(serving, 1) // between two looks
	wantAsked(t, m, w, 8, false)
	wantStep(t, m, w, false, loadRefused(serving))
	set(m, serving, 8)
	wantAsked(t, m, w, 8, true)
	wantStep(t, m, w, true, loads(serving, 8))
}

// Where the numbers come to Poison the words are poisoned, like by any other who writes that: Poison is never a ticket, those beside it are.
func TestTicketsBesidePoison(t *testing.T) {
	m, l := standing(t, api.Poison-1, api.Poison-1)
	a, b := l.Enter(), l.Enter()
	wantStep(t, m, a, false, adds(next, api.Poison-1))
	wantAsked(t, m, a, api.Poison-1, true)
	wantStep(t, m, b, false, addRefused(next))
	wantAsked(t, m, b, -1, true)
	wantStep(t, m, a, true, loads(serving, api.Poison-1))
	wantLeave(t, m, l, api.OK, adds(serving, api.Poison-1))
	wantLeave(t, m, l, api.ErrPoison, addRefused(serving))
	wantWords(t, m, 0, 0, api.Poison, api.Poison)
	set(m, next, api.Poison+1)
	wantStep(t, m, b, false, adds(next, api.Poison+1))
	wantAsked(t, m, b, api.Poison+1, false)
	wantStep(t, m, b, false, loadRefused(serving))
	set(m, serving, api.Poison+1)
	wantStep(t, m, b, true, loads(serving, api.Poison+1))
}

// Ready tells what the word is now, not what a look found.
func TestReadyIsOfNow(t *testing.T) {
	m, l := standing(t, 3, 3)
	w := l.Enter()
	w.Step()
	wantAsked(t, m, w, 3, true)
	set(m, serving, 4)
	wantAsked(t, m, w, 3, false)
	wantStep(t, m, w, false, loads(serving, 4))
	set(m, serving, 3)
	wantAsked(t, m, w, 3, true)
	set(m, serving, 2)
	wantAsked(t, m, w, 3, false)
	wantStep(t, m, w, false, loads(serving, 2))
	m.Clear(serving, 1)
	wantAsked(t, m, w, 3, false)
	set(m, serving, 3)
	wantStep(t, m, w, true, loads(serving, 3))
	set(m, serving, 4)
	wantAsked(t, m, w, 3, true)
}
