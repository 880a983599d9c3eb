package cells_test

import (
	"math"
	"slices"
	"testing"

	"gatehouse/api"
	"gatehouse/cells"
)

// memory is a new one with these words, which are put there by stores.
func memory(t *testing.T, words ...int) *cells.Memory {
	t.Helper()
	m := fresh(t, len(words))
	for addr, word := range words {
		if e := m.Store(addr, word); e != api.OK {
			t.Fatalf("Store(%d, %d) = %v", addr, word, e)
		}
	}
	return m
}

func fresh(t *testing.T, words int) *cells.Memory {
	t.Helper()
	m, e := cells.New(words)
	if m == nil || e != api.OK {
		t.Fatalf("New(%d) = %v, %v", words, m, e)
	}
	return m
}

func wantLoad(t *testing.T, m *cells.Memory, addr, word int, code api.Errno) {
	t.Helper()
	if w, e := m.Load(addr); w != word || e != code {
		t.Errorf("Load(%d) = %d, %v, want %d, %v", addr, w, e, word, code)
	}
}

func wantStore(t *testing.T, m *cells.Memory, addr, value int, code api.Errno) {
	t.Helper()
	if e := m.Store(addr, value); e != code {
		t.Errorf("Store(%d, %d) = %v, want %v", addr, value, e, code)
	}
}

func wantSwap(t *testing.T, m *cells.Memory, addr, old, value, was int, written bool) {
	t.Helper()
	if w, ok := m.Swap(addr, old, value); w != was || ok != written {
		t.Errorf("Swap(%d, %d, %d) = %d, %v, want %d, %v", addr, old, value, w, ok, was, written)
	}
}

func wantAdd(t *testing.T, m *cells.Memory, addr, by, was int, code api.Errno) {
	t.Helper()
	if w, e := m.Add(addr, by); w != was || e != code {
		t.Errorf("Add(%d, %d) = %d, %v, want %d, %v", addr, by, w, e, was, code)
	}
}

func wantPoison(t *testing.T, m *cells.Memory, addr, n int, code api.Errno) {
	t.Helper()
	if e := m.Poison(addr, n); e != code {
		t.Errorf("Poison(%d, %d) = %v, want %v", addr, n, e, code)
	}
}

func wantClear(t *testing.T, m *cells.Memory, addr, n int, code api.Errno) {
	t.Helper()
	if e := m.Clear(addr, n); e != code {
		t.Errorf("Clear(%d, %d) = %v, want %v", addr, n, e, code)
	}
}

// wantWords asks for all the memory's words.
func wantWords(t *testing.T, m *cells.Memory, words ...int) {
	t.Helper()
	if l, e := m.Words(0, m.Len()); !slices.Equal(l, words) || e != api.OK {
		t.Errorf("the words are %v, %v, want %v", l, e, words)
	}
}

func wantPiece(t *testing.T, m *cells.Memory, addr, n int, code api.Errno, words ...int) {
	t.Helper()
	if l, e := m.Words(addr, n); !slices.Equal(l, words) || e != code {
		t.Errorf("Words(%d, %d) = %v, %v, want %v, %v", addr, n, l, e, words, code)
	}
}

func wantTrace(t *testing.T, m *cells.Memory, entries ...api.Access) {
	t.Helper()
	if l := m.Trace(); !slices.Equal(l, entries) {
		t.Errorf("the trace is %v, want %v", l, entries)
	}
}

func wantBad(t *testing.T, m *cells.Memory, bad int) {
	t.Helper()
	if n := m.Bad(); n != bad {
		t.Errorf("Bad() = %d, want %d", n, bad)
	}
}

func entry(kind int8, addr, value, old int, good bool) api.Access {
	return api.Access{Kind: kind, Addr: addr, Value: value, Old: old, Good: good}
}

func TestTheExamplesOfTheChapter(t *testing.T) {
	m := fresh(t, 4)
	wantLoad(t, m, 3, 0, api.OK)
	wantLoad(t, m, 4, 0, api.ErrAddress)
	wantLoad(t, m, -1, 0, api.ErrAddress)
	wantStore(t, m, 1, 7, api.OK)
	wantLoad(t, m, 1, 7, api.OK)
	wantAdd(t, m, 1, -2, 7, api.OK)
	wantLoad(t, m, 1, 5, api.OK)
	wantSwap(t, m, 1, 5, 9, 5, true)
	wantSwap(t, m, 1, 5, 8, 9, false)
	wantSwap(t, m, 4, 0, 1, 0, false)
	wantPoison(t, m, 2, 2, api.OK)
	wantLoad(t, m, 2, api.Poison, api.ErrPoison)
	wantStore(t, m, 2, 1, api.ErrPoison)
	wantSwap(t, m, 2, api.Poison, 1, api.Poison, false)
	wantAdd(t, m, 3, 1, api.Poison, api.ErrPoison)
	wantPiece(t, m, 0, 4, api.OK, 0, 9, api.Poison, api.Poison)
	wantPiece(t, m, 4, 0, api.OK)
	wantPiece(t, m, 5, 0, api.ErrAddress)
	wantPiece(t, m, 0, 5, api.ErrAddress)
	wantBad(t, m, 7)
	wantTrace(t, m,
		entry(1, 3, 0, 0, true), entry(1, 4, 0, 0, false), entry(1, -1, 0, 0, false), entry(2, 1, 7, 0, true), entry(1, 1, 7, 0, true), entry(4, 1, -2, 7, true), entry(1, 1, 5, 0, true),
		entry(3, 1, 9, 5, true), entry(3, 1, 8, 9, false), entry(3, 4, 1, 0, false),
		entry(1, 2, api.Poison, 0, false), entry(2, 2, 1, api.Poison, false), entry(3, 2, 1, api.Poison, false), entry(4, 3, 1, api.Poison, false))
	wantClear(t, m, 2, 1, api.OK)
	wantLoad(t, m, 2, 0, api.OK)
	wantPoison(t, m, 3, 2, api.ErrAddress)
	wantClear(t, m, 0, -1, api.ErrAddress)
	wantStore(t, m, 0, api.Poison, api.OK)
	wantLoad(t, m, 0, api.Poison, api.ErrPoison)
	wantWords(t, m, api.Poison, 9, 0, api.Poison)
}

func TestTheNumbers(t *testing.T) {
	if api.ErrRange != 3 || api.ErrAddress != 140 || api.ErrPoison != 141 || api.Poison != -4611686018427387904 || api.MaxWords != 65536 {
		t.Error("an error, Poison or MaxWords has another number")
	}
	if api.AccessLoad != 1 || api.AccessStore != 2 || api.AccessSwap != 3 || api.AccessAdd != 4 {
		t.Error("a kind has another number")
	}
}

// 14.1

func TestNewIsRefused(t *testing.T) {
	for _, words := range []int{math.MinInt, math.MinInt + 1, api.Poison, -65536, -2, -1, 0, 65537, 65538, 1 << 20, 1 << 32, 1<<32 + 1, 1 << 48, math.MaxInt - 1, math.MaxInt} {
		if m, e := cells.New(words); m != nil || e != api.ErrRange {
			t.Errorf("New(%d) = %v, %v", words, m, e)
		}
	}
}

func TestANewMemory(t *testing.T) {
	for _, words := range []int{1, 2, 3, 4, 63, 64, 65, 400, 4095, 4096, 65535, 65536} {
		m := fresh(t, words)
		if n := m.Len(); n != words {
			t.Errorf("New(%d): Len() = %d", words, n)
		}
		wantTrace(t, m)
		wantBad(t, m, 0)
		wantPiece(t, m, 0, words, api.OK, make([]int, words)...)
		for _, addr := range []int{0, words / 2, words - 1} {
			wantLoad(t, m, addr, 0, api.OK)
		}
		wantLoad(t, m, words, 0, api.ErrAddress)
		wantLoad(t, m, -1, 0, api.ErrAddress)
		wantPiece(t, m, 0, words+1, api.ErrAddress)
	}
}

// Whatever is done, the memory has as many words as it had.
func TestLenStays(t *testing.T) {
	m := fresh(t, 3)
	for _, do := range []func(){
		func() { m.Store(2, 9) }, func() { m.Store(3, 9) }, func() { m.Add(0, 1) }, func() { m.Add(-1, 1) }, func() { m.Swap(1, 0, 4) }, func() { m.Swap(7, 0, 4) },
		func() { m.Poison(0, 3) }, func() { m.Poison(0, 4) }, func() { m.Clear(1, 2) }, func() { m.Clear(3, 1) }, func() { m.Note(api.Access{Kind: api.AccessTake, Addr: 3, Value: 100, Good: true}) },
		func() { m.Words(0, 3) }, func() { m.Words(3, 0) }, func() { m.Trace() },
	} {
		do()
		if n := m.Len(); n != 3 {
			t.Fatalf("Len() = %d", n)
		}
	}
	wantTrace(t, m, m.Trace()[:7]...)
}

// Every word of the greatest memory is one of its own.
func TestTheGreatestMemory(t *testing.T) {
	m := fresh(t, api.MaxWords)
	want := make([]int, api.MaxWords)
	for addr := range want {
		want[addr] = addr*7 - 100000
		wantStore(t, m, addr, want[addr], api.OK)
	}
	for addr := range want {
		wantLoad(t, m, addr, want[addr], api.OK)
	}
	wantWords(t, m, want...)
	wantPiece(t, m, 65535, 1, api.OK, want[65535])
	wantPiece(t, m, 65536, 0, api.OK)
	wantPiece(t, m, 65536, 1, api.ErrAddress)
	wantStore(t, m, 65536, 1, api.ErrAddress)
	wantPoison(t, m, 0, 65536, api.OK)
	wantWords(t, m, slices.Repeat([]int{api.Poison}, api.MaxWords)...)
	wantClear(t, m, 1, 65535, api.OK)
	want = make([]int, api.MaxWords)
	want[0] = api.Poison
	wantWords(t, m, want...)
	if n := len(m.Trace()); n != 2*65536+1 {
		t.Errorf("%d entries", n)
	}
	wantBad(t, m, 1)
}
