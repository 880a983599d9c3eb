package lock_test

import (
	"math"
	"slices"
	"testing"

	"gatehouse/api"
	"gatehouse/cells"
	"gatehouse/lock"
)

// The lock of most tests: the word 2 is the next ticket, the word 3 the one that is served.
const next, serving = 2, 3

// fresh is a memory of so many words.
func fresh(t *testing.T, n int) *cells.Memory {
	t.Helper()
	m, e := cells.New(n)
	if e != api.OK {
		t.Fatalf("cells.New(%d): %v", n, e)
	}
	return m
}

// over is the lock of two words.
func over(t *testing.T, m *cells.Memory, next, serving int) *lock.Lock {
	t.Helper()
	l, e := lock.New(m, next, serving)
	if e != api.OK || l == nil {
		t.Fatalf("New(m, %d, %d) = %v, %v", next, serving, l, e)
	}
	return l
}

// standing is a memory of four words, of which two are a lock's and stand at these numbers.
func standing(t *testing.T, atNext, atServing int) (*cells.Memory, *lock.Lock) {
	t.Helper()
	m := fresh(t, 4)
	set(m, next, atNext)
	set(m, serving, atServing)
	return m, over(t, m, next, serving)
}

// set writes a word, a poisoned one too.
func set(m *cells.Memory, addr, value int) {
	m.Clear(addr, 1)
	m.Store(addr, value)
}

// The entries of a trace that a lock can make.
func adds(addr, old int) api.Access {
	return api.Access{Kind: api.AccessAdd, Addr: addr, Value: 1, Old: old, Good: true}
}

func loads(addr, value int) api.Access {
	return api.Access{Kind: api.AccessLoad, Addr: addr, Value: value, Good: true}
}

func addRefused(addr int) api.Access {
	return api.Access{Kind: api.AccessAdd, Addr: addr, Value: 1, Old: api.Poison}
}

func loadRefused(addr int) api.Access {
	return api.Access{Kind: api.AccessLoad, Addr: addr, Value: api.Poison}
}

// wantTraced asks that a call makes just these accesses.
func wantTraced(t *testing.T, m *cells.Memory, what string, call func(), want ...api.Access) {
	t.Helper()
	was := m.Trace()
	call()
	now := m.Trace()
	if len(now) < len(was) || !slices.Equal(now[:len(was)], was) || !slices.Equal(now[len(was):], want) {
		t.Errorf("%s: behind the trace %v it is %v, want %v more", what, was, now, want)
	}
}

func wantStep(t *testing.T, m *cells.Memory, w *lock.Waiter, want bool, traced ...api.Access) {
	t.Helper()
	wantTraced(t, m, "Step()", func() {
		if got := w.Step(); got != want {
			t.Errorf("Step() = %v, want %v", got, want)
		}
	}, traced...)
}

func wantLeave(t *testing.T, m *cells.Memory, l *lock.Lock, want api.Errno, traced api.Access) {
	t.Helper()
	wantTraced(t, m, "Leave()", func() {
		if got := l.Leave(); got != want {
			t.Errorf("Leave() = %v, want %v", got, want)
		}
	}, traced)
}

// wantAsked asks for what a waiter tells; asking changes nothing.
func wantAsked(t *testing.T, m *cells.Memory, w *lock.Waiter, ticket int, ready bool) {
	t.Helper()
	was := allWords(t, m)
	wantTraced(t, m, "Ticket(), Ready()", func() {
		for range 2 {
			if got := w.Ticket(); got != ticket {
				t.Errorf("Ticket() = %d, want %d", got, ticket)
			}
			if got := w.Ready(); got != ready {
				t.Errorf("Ready() = %v, want %v", got, ready)
			}
		}
	})
	wantWords(t, m, was...)
}

func allWords(t *testing.T, m *cells.Memory) []int {
	t.Helper()
	words, e := m.Words(0, m.Len())
	if e != api.OK {
		t.Fatalf("Words: %v", e)
	}
	return words
}

func wantWords(t *testing.T, m *cells.Memory, want ...int) {
	t.Helper()
	if got := allWords(t, m); !slices.Equal(got, want) {
		t.Errorf("the words are %v, want %v", got, want)
	}
}

// dice throws numbers, always the same ones.
type dice uint64

func (d *dice) throw(n int) int {
	*d = *d*6364136223846793005 + 1442695040888963407
	return int(uint64(*d>>33) % uint64(n))
}

// corners are numbers at which a word may stand; none of them is near api.Poison.
func corners() []int {
	return []int{0, 1, -1, -2, 7, 1 << 32, -1 << 32, 1 << 62, math.MaxInt, math.MaxInt - 1, math.MinInt, math.MinInt + 1}
}

// The chapter's examples, in their order.
func TestExamples(t *testing.T) {
	m := fresh(t, 4)
	wantNew(t, nil, 2, 3, api.ErrNil)
	wantNew(t, m, 2, 4, api.ErrAddress)
	wantNew(t, m, -1, -1, api.ErrAddress)
	wantNew(t, m, 2, 2, api.ErrArg)
	l := over(t, m, 2, 3)
	a, b, c := l.Enter(), l.Enter(), l.Enter()
	wantAsked(t, m, a, -1, true)
	wantStep(t, m, a, false, adds(2, 0))
	wantAsked(t, m, a, 0, true)
	wantStep(t, m, b, false, adds(2, 1))
	wantAsked(t, m, b, 1, false)
	wantStep(t, m, b, false, loads(3, 0))
	wantAsked(t, m, b, 1, false)
	wantStep(t, m, a, true, loads(3, 0))
	wantStep(t, m, a, true)
	wantStep(t, m, b, false, loads(3, 0))
	wantWords(t, m, 0, 0, 2, 0)
	wantLeave(t, m, l, api.OK, adds(3, 0))
	wantAsked(t, m, b, 1, true)
	wantStep(t, m, c, false, adds(2, 2))
	wantStep(t, m, b, true, loads(3, 1))
	wantStep(t, m, c, false, loads(3, 1))
	wantLeave(t, m, l, api.OK, adds(3, 1))
	wantStep(t, m, c, true, loads(3, 2))
	if n := len(m.Trace()); n != 11 {
		t.Errorf("the trace has %d entries, want 11", n)
	}
	m.Poison(2, 1)
	d := l.Enter()
	wantStep(t, m, d, false, addRefused(2))
	wantAsked(t, m, d, -1, true)
	m.Poison(3, 1)
	wantLeave(t, m, l, api.ErrPoison, addRefused(3))
	wantWords(t, m, 0, 0, api.Poison, api.Poison)
}
