package lock_test

import (
	"math"
	"testing"

	"gatehouse/api"
	"gatehouse/cells"
	"gatehouse/lock"
)

// 17.1

// wantNew asks for an error, and for no lock beside it; or for a lock.
func wantNew(t *testing.T, m *cells.Memory, next, serving int, want api.Errno) {
	t.Helper()
	l, e := lock.New(m, next, serving)
	if e != want || (l != nil) != (want == api.OK) {
		t.Errorf("New(.., %d, %d) = %v, %v, want %v", next, serving, l, e, want)
	}
}

// outer are addresses that a memory of n words does not have.
func outer(n int) []int {
	return []int{-1, -2, -n, n, n + 1, 2 * n, api.MaxWords, 1 << 32, 1<<32 + 1, -1 << 32, api.Poison, math.MaxInt, math.MinInt, math.MinInt + 1}
}

func TestNewOfNoMemory(t *testing.T) {
	addresses := append(outer(4), 0, 1, 2, 3)
	for _, a := range addresses {
		for _, b := range addresses {
			wantNew(t, nil, a, b, api.ErrNil)
		}
	}
}

// One address outside is enough, and two of the same are outside ahead of being the same.
func TestNewOutside(t *testing.T) {
	m := fresh(t, 4)
	for _, a := range outer(4) {
		for b := range 4 {
			wantNew(t, m, a, b, api.ErrAddress)
			wantNew(t, m, b, a, api.ErrAddress)
		}
		for _, b := range outer(4) {
			wantNew(t, m, a, b, api.ErrAddress)
		}
	}
}

func TestNewOfEachPairInside(t *testing.T) {
	for _, n := range []int{1, 2, 3, 5} {
		m := fresh(t, n)
		for a := range n {
			for b := range n {
				want := api.OK
				if a == b {
					want = api.ErrArg
				}
				wantNew(t, m, a, b, want)
			}
		}
		wantNew(t, m, n-1, n, api.ErrAddress)
		wantNew(t, m, n, n-1, api.ErrAddress)
		wantNew(t, m, n, n, api.ErrAddress)
	}
}

func TestNewInTheGreatestMemory(t *testing.T) {
	const last = api.MaxWords - 1
	m := fresh(t, api.MaxWords)
	wantNew(t, m, last, last, api.ErrArg)
	wantNew(t, m, last+1, 0, api.ErrAddress)
	wantNew(t, m, 0, last+1, api.ErrAddress)
	l := over(t, m, last, 0)
	w := l.Enter()
	wantStep(t, m, w, false, adds(last, 0))
	wantStep(t, m, w, true, loads(0, 0))
	wantLeave(t, m, l, api.OK, adds(0, 0))
}

// Neither New nor Enter is an access, be it refused or not; the words stay as they are, whatever stands there.
func TestNewAndEnterAccessNothing(t *testing.T) {
	for _, x := range append(corners(), api.Poison) {
		for _, y := range append(corners(), api.Poison) {
			m := fresh(t, 4)
			set(m, 0, 77)
			set(m, next, x)
			set(m, serving, y)
			m.Load(9)
			bad := m.Bad()
			wantTraced(t, m, "New, Enter", func() {
				for _, l := range []*lock.Lock{over(t, m, next, serving), over(t, m, serving, next)} {
					l.Enter()
					l.Enter()
				}
				wantNew(t, m, next, next, api.ErrArg)
				wantNew(t, m, next, 4, api.ErrAddress)
			})
			wantWords(t, m, 77, 0, x, y)
			if m.Bad() != bad {
				t.Errorf("%d accesses were refused, want %d", m.Bad(), bad)
			}
		}
	}
}

// Who enters later has made no step, whatever others have done, and wherever the words stand.
func TestEnterBehindOthers(t *testing.T) {
	m, l := standing(t, 5, 5)
	early := l.Enter()
	a := l.Enter()
	a.Step()
	a.Step()
	late := l.Enter()
	wantAsked(t, m, a, 5, true)
	wantAsked(t, m, late, -1, true)
	wantAsked(t, m, early, -1, true)
	l.Leave()
	wantAsked(t, m, l.Enter(), -1, true)
	wantStep(t, m, late, false, adds(next, 6)) // tickets are had by the first step, not by entering
	wantStep(t, m, early, false, adds(next, 7))
	wantStep(t, m, late, true, loads(serving, 6))
	wantStep(t, m, early, false, loads(serving, 6))
}

// Only the two words are a lock's: no other word changes.
func TestOtherWordsStay(t *testing.T) {
	for a := range 5 {
		for b := range 5 {
			if a == b {
				continue
			}
			m := fresh(t, 5)
			want := []int{40, 41, 42, 43, 44}
			for addr, word := range want {
				set(m, addr, word)
			}
			set(m, a, 9)
			set(m, b, 9)
			l := over(t, m, a, b)
			w := l.Enter()
			wantStep(t, m, w, false, adds(a, 9))
			wantStep(t, m, w, true, loads(b, 9))
			wantLeave(t, m, l, api.OK, adds(b, 9))
			want[a], want[b] = 10, 10
			wantWords(t, m, want...)
		}
	}
}

// Two locks of the same words are one: it does not matter by which a waiter came or who left by which.
func TestTwoLocksOfTheSameWords(t *testing.T) {
	m, l := standing(t, 0, 0)
	a := l.Enter()
	wantStep(t, m, a, false, adds(next, 0))
	other := over(t, m, next, serving) // made while the first is in use
	b, c := other.Enter(), l.Enter()
	wantStep(t, m, b, false, adds(next, 1))
	wantStep(t, m, c, false, adds(next, 2))
	wantStep(t, m, b, false, loads(serving, 0))
	wantStep(t, m, a, true, loads(serving, 0))
	wantLeave(t, m, other, api.OK, adds(serving, 0))
	wantAsked(t, m, b, 1, true)
	wantAsked(t, m, c, 2, false)
	wantStep(t, m, b, true, loads(serving, 1))
	wantLeave(t, m, l, api.OK, adds(serving, 1))
	wantStep(t, m, c, true, loads(serving, 2))
	wantWords(t, m, 0, 0, 3, 2)
}

// Locks of the same addresses in two memories share nothing, nor do two of other words of one memory.
func TestLocksOfOtherWords(t *testing.T) {
	m, l := standing(t, 0, 0)
	o, k := standing(t, 0, 0)
	a, b, c := l.Enter(), k.Enter(), over(t, m, 0, 1).Enter()
	wantStep(t, m, a, false, adds(next, 0))
	wantStep(t, o, b, false, adds(next, 0))
	wantStep(t, m, c, false, adds(0, 0))
	wantStep(t, m, a, true, loads(serving, 0))
	wantStep(t, o, b, true, loads(serving, 0))
	wantStep(t, m, c, true, loads(1, 0))
	wantLeave(t, m, l, api.OK, adds(serving, 0))
	wantWords(t, m, 1, 0, 1, 1)
	wantWords(t, o, 0, 0, 1, 0)
	if n := len(o.Trace()); n != 4 { // the two words were written, two steps were made
		t.Errorf("the other memory's trace is %v", o.Trace())
	}
}
