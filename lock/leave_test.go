package lock_test

import (
	"math"
	"testing"

	"gatehouse/api"
)

// 17.5

// Leave adds 1, at each number, and never asks who leaves, nor where the next ticket stands.
func TestLeaveOfEachNumber(t *testing.T) {
	for _, x := range append(corners(), api.Poison) {
		for _, y := range corners() {
			m, l := standing(t, x, y)
			wantLeave(t, m, l, api.OK, adds(serving, y))
			wantWords(t, m, 0, 0, x, y+1)
			wantLeave(t, m, l, api.OK, adds(serving, y+1))
			wantWords(t, m, 0, 0, x, y+2)
		}
	}
}

func TestLeaveWrapsRound(t *testing.T) {
	m, l := standing(t, 0, math.MaxInt)
	wantLeave(t, m, l, api.OK, adds(serving, math.MaxInt))
	wantWords(t, m, 0, 0, 0, math.MinInt)
}

// With nobody inside the turn goes on all the same: who comes then has been passed over, until the word comes there again.
func TestLeaveWithNobodyInside(t *testing.T) {
	m, l := standing(t, 0, 0)
	wantLeave(t, m, l, api.OK, adds(serving, 0))
	a, b := l.Enter(), l.Enter()
	wantStep(t, m, a, false, adds(next, 0))
	wantStep(t, m, b, false, adds(next, 1))
	wantAsked(t, m, a, 0, false)
	wantAsked(t, m, b, 1, true)
	wantStep(t, m, a, false, loads(serving, 1))
	wantStep(t, m, b, true, loads(serving, 1))
	wantLeave(t, m, l, api.OK, adds(serving, 1))
	wantStep(t, m, a, false, loads(serving, 2))
	set(m, serving, 0)
	wantStep(t, m, a, true, loads(serving, 0))
}

// Who leaves ahead of the one inside lets the next one in: then two hold.
func TestLeaveOfSomebodyElse(t *testing.T) {
	m, l := standing(t, 0, 0)
	a, b := l.Enter(), l.Enter()
	a.Step()
	b.Step()
	wantLeave(t, m, l, api.OK, adds(serving, 0)) // a has a ticket, and does not hold yet
	wantAsked(t, m, a, 0, false)
	wantStep(t, m, b, true, loads(serving, 1))
	wantStep(t, m, a, false, loads(serving, 1))
	set(m, serving, 0)
	wantStep(t, m, a, true, loads(serving, 0))
	wantStep(t, m, b, true)
}

func TestLeaveOfAPoisonedWord(t *testing.T) {
	m, l := standing(t, 0, 0)
	w := l.Enter()
	w.Step()
	w.Step()
	m.Poison(serving, 1)
	for range 3 {
		wantLeave(t, m, l, api.ErrPoison, addRefused(serving))
		wantWords(t, m, 0, 0, 1, api.Poison)
		wantStep(t, m, w, true)
	}
	if m.Bad() != 3 {
		t.Errorf("%d accesses were refused, want 3", m.Bad())
	}
	m.Clear(serving, 1)
	wantLeave(t, m, l, api.OK, adds(serving, 0))
	m.Poison(next, 1) // the other word is not asked for
	wantLeave(t, m, l, api.OK, adds(serving, 1))
	wantWords(t, m, 0, 0, api.Poison, 2)
}
