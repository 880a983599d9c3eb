package cells_test

import (
	"math"
	"slices"
	"testing"

	"gatehouse/api"
	"gatehouse/cells"
)

// 14.2, and what 14.5 says of it.

// numbers that a word may hold, the edges of ints among them; Poison is not.
var numbers = []int{0, 1, -1, 2, 7, -7, 1 << 31, -1 << 31, 1<<62 - 1, 1 << 62, api.Poison + 1, api.Poison - 1, math.MinInt, math.MinInt + 1, math.MaxInt - 1, math.MaxInt}

func TestStoreThenLoad(t *testing.T) {
	for _, was := range numbers {
		for _, value := range append(slices.Clone(numbers), was) {
			m := memory(t, 10, was, 30)
			wantStore(t, m, 1, value, api.OK)
			wantLoad(t, m, 1, value, api.OK)
			wantWords(t, m, 10, value, 30)
			wantTrace(t, m, entry(2, 0, 10, 0, true), entry(2, 1, was, 0, true), entry(2, 2, 30, 0, true), entry(2, 1, value, was, true), entry(1, 1, value, 0, true))
			wantBad(t, m, 0)
		}
	}
}

func TestSwapOfEachNumber(t *testing.T) {
	for _, was := range numbers {
		for _, old := range append(slices.Clone(numbers), api.Poison) {
			for _, value := range []int{5, was, old, 0, math.MinInt} {
				m := memory(t, 10, was, 30)
				now := was
				if was == old {
					now = value
				}
				wantSwap(t, m, 1, old, value, was, was == old)
				wantWords(t, m, 10, now, 30)
				if x := m.Trace(); len(x) != 4 || x[3] != entry(3, 1, value, was, was == old) {
					t.Errorf("Swap from %d of %d to %d: the trace is %v", old, was, value, x)
				}
				wantBad(t, m, 0)
			}
		}
	}
}

// A swap to the number that stands there writes it, and says so.
func TestSwapToTheSame(t *testing.T) {
	m := memory(t, 6)
	wantSwap(t, m, 0, 6, 6, 6, true)
	wantSwap(t, m, 0, 5, 6, 6, false)
	wantWords(t, m, 6)
	wantTrace(t, m, entry(2, 0, 6, 0, true), entry(3, 0, 6, 6, true), entry(3, 0, 6, 6, false))
}

func TestAddOfEachNumber(t *testing.T) {
	for _, was := range numbers {
		for _, by := range append(slices.Clone(numbers), api.Poison) {
			m := memory(t, 10, was, 30)
			wantAdd(t, m, 1, by, was, api.OK)
			wantWords(t, m, 10, int(uint(was)+uint(by)), 30)
			if x := m.Trace(); len(x) != 4 || x[3] != entry(4, 1, by, was, true) {
				t.Errorf("Add of %d to %d: the trace is %v", by, was, x)
			}
			wantBad(t, m, 0)
		}
	}
}

// R7
func TestAddWrapsRound(t *testing.T) {
	m := memory(t, math.MaxInt, math.MinInt, math.MaxInt, math.MinInt, -1)
	wantAdd(t, m, 0, 1, math.MaxInt, api.OK)
	wantAdd(t, m, 1, -1, math.MinInt, api.OK)
	wantAdd(t, m, 2, math.MaxInt, math.MaxInt, api.OK)
	wantAdd(t, m, 3, math.MinInt, math.MinInt, api.OK)
	wantAdd(t, m, 4, math.MinInt, -1, api.OK)
	wantWords(t, m, math.MinInt, math.MaxInt, -2, 0, math.MaxInt)
	wantAdd(t, m, 0, -1, math.MinInt, api.OK)
	wantLoad(t, m, 0, math.MaxInt, api.OK)
	wantBad(t, m, 0)
}

// outside are addresses that a memory of so many words has not.
func outside(words int) []int {
	return []int{-1, -2, -words, -words - 1, math.MinInt, math.MinInt + 1, words, words + 1, 2 * words, words + 1<<32, 1 << 32, 1 << 48, 1<<60 + words - 1, api.Poison, math.MaxInt - 1, math.MaxInt}
}

func TestAnAddressOutside(t *testing.T) {
	for _, words := range []int{1, 2, 5, 64, api.MaxWords} {
		m := fresh(t, words)
		for addr := range min(words, 70) {
			m.Store(addr, addr+40)
		}
		before, _ := m.Words(0, words)
		skip, bad := len(m.Trace()), 0
		for _, addr := range outside(words) {
			wantLoad(t, m, addr, 0, api.ErrAddress)
			wantStore(t, m, addr, 3, api.ErrAddress)
			wantSwap(t, m, addr, 0, 3, 0, false)
			wantSwap(t, m, addr, 40, 3, 0, false)
			wantAdd(t, m, addr, 3, 0, api.ErrAddress)
			want := []api.Access{entry(1, addr, 0, 0, false), entry(2, addr, 3, 0, false), entry(3, addr, 3, 0, false), entry(3, addr, 3, 0, false), entry(4, addr, 3, 0, false)}
			if got := m.Trace()[skip:]; !slices.Equal(got, want) {
				t.Errorf("of %d words, the address %d: the trace is %v", words, addr, got)
			}
			skip, bad = skip+5, bad+5
			wantBad(t, m, bad)
		}
		wantWords(t, m, before...)
	}
}

// The last word is within, the one behind it is not.
func TestTheFirstAndTheLastAddress(t *testing.T) {
	for _, words := range []int{1, 2, 5, 64, api.MaxWords} {
		m := fresh(t, words)
		for _, addr := range []int{0, words - 1} {
			m.Store(addr, 4)
			wantLoad(t, m, addr, 4, api.OK)
			wantSwap(t, m, addr, 4, 8, 4, true)
			wantAdd(t, m, addr, 2, 8, api.OK)
			wantLoad(t, m, addr, 10, api.OK)
		}
		wantBad(t, m, 0)
		wantLoad(t, m, words, 0, api.ErrAddress)
		wantLoad(t, m, -1, 0, api.ErrAddress)
		wantBad(t, m, 2)
	}
}

// poisoners are the ways to put Poison into the word 1, which holds 7 ahead of it.
func poisoners() map[string]func(m *cells.Memory) {
	return map[string]func(m *cells.Memory){
		"Poison":            func(m *cells.Memory) { m.Poison(1, 1) },
		"a store":           func(m *cells.Memory) { m.Store(1, api.Poison) },
		"a swap":            func(m *cells.Memory) { m.Swap(1, 7, api.Poison) },
		"an add":            func(m *cells.Memory) { m.Add(1, api.Poison-7) },
		"an add that wraps": func(m *cells.Memory) { m.Store(1, math.MaxInt); m.Add(1, 1<<62+1) },
		"an add of Poison":  func(m *cells.Memory) { m.Store(1, 0); m.Add(1, api.Poison) },
		"two adds":          func(m *cells.Memory) { m.Store(1, -1<<61); m.Add(1, -1<<61-5); m.Add(1, 5) },
		"two adds of 1":     func(m *cells.Memory) { m.Store(1, api.Poison-2); m.Add(1, 1); m.Add(1, 1) },
	}
}

func TestAPoisonedWord(t *testing.T) {
	for what, poison := range poisoners() {
		m := memory(t, 6, 7, 8)
		poison(m)
		wantBad(t, m, 0)
		skip := len(m.Trace())
		for _, x := range m.Trace() {
			if !x.Good {
				t.Errorf("%s: %v", what, x)
			}
		}
		wantLoad(t, m, 1, api.Poison, api.ErrPoison)
		wantStore(t, m, 1, 3, api.ErrPoison)
		wantStore(t, m, 1, api.Poison, api.ErrPoison)
		wantSwap(t, m, 1, api.Poison, 3, api.Poison, false)
		wantSwap(t, m, 1, 7, 3, api.Poison, false)
		wantSwap(t, m, 1, 0, 3, api.Poison, false)
		wantSwap(t, m, 1, api.Poison, api.Poison, api.Poison, false)
		wantAdd(t, m, 1, 3, api.Poison, api.ErrPoison)
		wantAdd(t, m, 1, 0, api.Poison, api.ErrPoison)
		wantWords(t, m, 6, api.Poison, 8)
		want := []api.Access{
			entry(1, 1, api.Poison, 0, false), entry(2, 1, 3, api.Poison, false), entry(2, 1, api.Poison, api.Poison, false),
			entry(3, 1, 3, api.Poison, false), entry(3, 1, 3, api.Poison, false), entry(3, 1, 3, api.Poison, false), entry(3, 1, api.Poison, api.Poison, false),
			entry(4, 1, 3, api.Poison, false), entry(4, 1, 0, api.Poison, false),
		}
		if got := m.Trace()[skip:]; !slices.Equal(got, want) {
			t.Errorf("%s: the trace is %v", what, got)
		}
		wantBad(t, m, 9)
		wantLoad(t, m, 0, 6, api.OK)
		wantLoad(t, m, 2, 8, api.OK)
		wantClear(t, m, 1, 1, api.OK)
		wantLoad(t, m, 1, 0, api.OK)
		wantStore(t, m, 1, 3, api.OK)
		wantWords(t, m, 6, 3, 8)
		wantBad(t, m, 9)
	}
}

// The entry of the access that puts Poison there is a good one, and has what stood there.
func TestTheEntriesOfPoisonWritten(t *testing.T) {
	m := memory(t, 1, 2, 3)
	wantStore(t, m, 0, api.Poison, api.OK)
	wantSwap(t, m, 1, 2, api.Poison, 2, true)
	wantAdd(t, m, 2, api.Poison-3, 3, api.OK)
	wantWords(t, m, api.Poison, api.Poison, api.Poison)
	if got, want := m.Trace()[3:], []api.Access{entry(2, 0, api.Poison, 1, true), entry(3, 1, api.Poison, 2, true), entry(4, 2, api.Poison-3, 3, true)}; !slices.Equal(got, want) {
		t.Errorf("the trace is %v", got)
	}
	wantBad(t, m, 0)
}

// A number beside Poison is a number like others.
func TestBesidePoison(t *testing.T) {
	for _, word := range []int{api.Poison - 1, api.Poison + 1, -api.Poison, math.MinInt} {
		m := memory(t, word)
		wantLoad(t, m, 0, word, api.OK)
		wantSwap(t, m, 0, api.Poison, 1, word, false)
		wantSwap(t, m, 0, word, 1, word, true)
		wantBad(t, m, 0)
	}
}

// What stood there is 0 outside; a swap from 0 does not find it there.
func TestSwapOutsideFromEachNumber(t *testing.T) {
	m := memory(t, 1)
	for _, old := range append(slices.Clone(numbers), api.Poison) {
		wantSwap(t, m, 1, old, 5, 0, false)
		wantSwap(t, m, -1, old, old, 0, false)
	}
	wantBad(t, m, 2*(len(numbers)+1))
	wantWords(t, m, 1)
}
