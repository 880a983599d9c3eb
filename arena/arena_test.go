package arena_test

import (
	"math"
	"slices"
	"testing"

	"gatehouse/api"
	"gatehouse/arena"
	"gatehouse/cells"
)

func fresh(t *testing.T, words int) *cells.Memory {
	t.Helper()
	m, e := cells.New(words)
	if m == nil || e != api.OK {
		t.Fatalf("cells.New(%d) = %v, %v", words, m, e)
	}
	return m
}

// over is a new arena of a memory's words from one on.
func over(t *testing.T, m *cells.Memory, from int) *arena.Arena {
	t.Helper()
	a, e := arena.New(m, from)
	if a == nil || e != api.OK {
		t.Fatalf("New(memory of %d words, %d) = %v, %v", m.Len(), from, a, e)
	}
	return a
}

// both are a new memory, and an arena of its words from one on.
func both(t *testing.T, words, from int) (*cells.Memory, *arena.Arena) {
	t.Helper()
	m := fresh(t, words)
	return m, over(t, m, from)
}

func free(addr, size int) api.Block { return api.Block{Addr: addr, Size: size, Free: true} }

func out(addr, size int) api.Block { return api.Block{Addr: addr, Size: size} }

func wantTake(t *testing.T, a *arena.Arena, n, addr int) {
	t.Helper()
	if p, e := a.Take(n); p != addr || e != api.OK {
		t.Errorf("Take(%d) = %d, %v, want %d", n, p, e, addr)
	}
}

func wantNoTake(t *testing.T, a *arena.Arena, n int, code api.Errno) {
	t.Helper()
	if p, e := a.Take(n); p != 0 || e != code {
		t.Errorf("Take(%d) = %d, %v, want 0, %v", n, p, e, code)
	}
}

func wantGive(t *testing.T, a *arena.Arena, addr int, code api.Errno) {
	t.Helper()
	if e := a.Give(addr); e != code {
		t.Errorf("Give(%d) = %v, want %v", addr, e, code)
	}
}

// wantBlocks asks for all pieces, and how many are out.
func wantBlocks(t *testing.T, a *arena.Arena, want ...api.Block) {
	t.Helper()
	if l := a.Blocks(); !slices.Equal(l, want) {
		t.Errorf("Blocks() = %v, want %v", l, want)
	}
	live := 0
	for _, b := range want {
		if !b.Free {
			live++
		}
	}
	if n := a.Live(); n != live {
		t.Errorf("Live() = %d, want %d", n, live)
	}
}

// words are all of a memory's, as they are.
func words(t *testing.T, m *cells.Memory) []int {
	t.Helper()
	l, e := m.Words(0, m.Len())
	if e != api.OK {
		t.Fatalf("Words: %v", e)
	}
	return l
}

func wantWords(t *testing.T, m *cells.Memory, want ...int) {
	t.Helper()
	if l := words(t, m); !slices.Equal(l, want) {
		t.Errorf("the words are %v, want %v", l, want)
	}
}

// wantAll asks for some words that are all the same.
func wantAll(t *testing.T, m *cells.Memory, addr, n, word int) {
	t.Helper()
	l, e := m.Words(addr, n)
	if e != api.OK || len(l) != n {
		t.Fatalf("Words(%d, %d): %v", addr, n, e)
	}
	for i, w := range l {
		if w != word {
			t.Fatalf("the word %d is %d, want %d", addr+i, w, word)
		}
	}
}

// numbered is a memory whose words are 100 and their address.
func numbered(t *testing.T, n int) *cells.Memory {
	t.Helper()
	m := fresh(t, n)
	for addr := range n {
		if e := m.Store(addr, 100+addr); e != api.OK {
			t.Fatalf("Store: %v", e)
		}
	}
	return m
}

// The chapter's examples, in their order.
func TestExamples(t *testing.T) {
	m, a := both(t, 20, 8)
	wantBlocks(t, a, free(8, 12))
	wantNoTake(t, a, 0, api.ErrArg)
	wantNoTake(t, a, 13, api.ErrRoom)
	wantTake(t, a, 5, 8)
	wantTake(t, a, 4, 13)
	wantNoTake(t, a, 4, api.ErrRoom)
	wantBlocks(t, a, out(8, 5), out(13, 4), free(17, 3))
	wantGive(t, a, 9, api.ErrBlock)
	wantGive(t, a, 8, api.OK)
	wantGive(t, a, 8, api.ErrBlock)
	wantBlocks(t, a, free(8, 5), out(13, 4), free(17, 3))
	wantAll(t, m, 8, 5, api.Poison)
	wantTake(t, a, 3, 8)
	wantBlocks(t, a, out(8, 3), free(11, 2), out(13, 4), free(17, 3))
	wantAll(t, m, 8, 3, 0)
	wantAll(t, m, 11, 2, api.Poison)
	wantGive(t, a, 13, api.OK)
	wantBlocks(t, a, out(8, 3), free(11, 9))
	wantAll(t, m, 11, 6, api.Poison)
	wantAll(t, m, 17, 3, 0)
	wantGive(t, a, 8, api.OK)
	wantBlocks(t, a, free(8, 12))
	wantTake(t, a, 12, 8)
	wantAll(t, m, 8, 12, 0)
	wantAll(t, m, 0, 8, 0)
}

// 15.2

func TestNewOfNil(t *testing.T) {
	for _, from := range []int{0, 1, -1, math.MinInt, math.MaxInt} {
		if a, e := arena.New(nil, from); a != nil || e != api.ErrNil {
			t.Errorf("New(nil, %d) = %v, %v", from, a, e)
		}
	}
}

func TestNewFromEachAddress(t *testing.T) {
	for _, n := range []int{1, 2, 3, 10, api.MaxWords} {
		m := fresh(t, n)
		for _, from := range []int{-1, -2, -n, n, n + 1, 2 * n, 1 << 32, api.MaxWords, math.MinInt, math.MinInt + 1, math.MaxInt - 1, math.MaxInt, api.Poison} {
			if a, e := arena.New(m, from); a != nil || e != api.ErrRange {
				t.Errorf("New(memory of %d words, %d) = %v, %v", n, from, a, e)
			}
		}
		for _, from := range []int{0, n / 2, n - 1} {
			wantBlocks(t, over(t, m, from), free(from, n-from))
		}
	}
}

func TestNewLeavesTheMemory(t *testing.T) {
	m := numbered(t, 6)
	m.Poison(4, 1)
	m.Load(4)
	m.Load(9)
	was, trace, bad := words(t, m), m.Trace(), m.Bad()
	for _, from := range []int{-1, 0, 3, 5, 6} {
		arena.New(m, from)
		wantWords(t, m, was...)
		if !slices.Equal(m.Trace(), trace) || m.Bad() != bad || m.Len() != 6 {
			t.Errorf("New(m, %d): the trace is %v, %d refused, %d words", from, m.Trace(), m.Bad(), m.Len())
		}
	}
}

// 15.5: a look changes nothing, and may be made again.
func TestLookedAtAgain(t *testing.T) {
	m, a := both(t, 12, 2)
	for _, n := range []int{2, 1, 3, 2} {
		a.Take(n)
	}
	wantGive(t, a, 2, api.OK)
	wantGive(t, a, 5, api.OK)
	wantGive(t, a, 4, api.OK)
	was := words(t, m)
	for range 4 {
		wantBlocks(t, a, free(2, 6), out(8, 2), free(10, 2))
		wantWords(t, m, was...)
	}
	wantTake(t, a, 6, 2)
	wantBlocks(t, a, out(2, 6), out(8, 2), free(10, 2))
}

// 15.5: also where no piece is free, or none is out.
func TestBlocksOfFullAndEmpty(t *testing.T) {
	_, a := both(t, 5, 3)
	wantBlocks(t, a, free(3, 2))
	wantTake(t, a, 2, 3)
	wantBlocks(t, a, out(3, 2))
	wantGive(t, a, 3, api.OK)
	wantBlocks(t, a, free(3, 2))
	wantTake(t, a, 1, 3)
	wantTake(t, a, 1, 4)
	wantBlocks(t, a, out(3, 1), out(4, 1))
}
