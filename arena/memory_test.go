package arena_test

import (
	"slices"
	"testing"

	"gatehouse/api"
	"gatehouse/arena"
)

// 15.6 and R5

// spoilt writes over a list, its spare room too, and behind it.
func spoilt[E any](l []E, filling E) {
	l = l[:cap(l)]
	for i := range l {
		l[i] = filling
	}
	_ = append(l, filling)
}

func TestBlocksAreTheHoldersOwn(t *testing.T) {
	_, a := both(t, 30, 3)
	calls := []func(){
		func() {},
		func() { a.Take(4) }, func() { a.Take(2) }, func() { a.Take(5) }, func() { a.Take(1) },
		func() { a.Give(7) }, func() { a.Give(3) }, func() { a.Take(3) }, func() { a.Take(15) },
		func() { a.Give(9) }, func() { a.Give(3) }, func() { a.Give(14) }, func() { a.Give(15) },
	}
	for i, call := range calls {
		call()
		one, other := a.Blocks(), a.Blocks()
		was := slices.Clone(other)
		spoilt(one, api.Block{Addr: -5, Size: 1000, Free: i%2 == 0})
		if !slices.Equal(other, was) {
			t.Errorf("%d: another answer has become %v, from %v", i, other, was)
		}
		wantBlocks(t, a, was...)
		_ = append(other, api.Block{})
		wantBlocks(t, a, was...)
	}
	wantBlocks(t, a, free(3, 27))
	wantTake(t, a, 27, 3)
}

func TestBlocksStayAsTheyWere(t *testing.T) {
	_, a := both(t, 10, 0)
	a.Take(2)
	a.Take(3)
	a.Give(0)
	l := a.Blocks()
	want := []api.Block{free(0, 2), out(2, 3), free(5, 5)}
	a.Take(1)
	a.Give(2)
	a.Take(8)
	if !slices.Equal(l, want) {
		t.Errorf("behind further calls the list is %v, want %v", l, want)
	}
}

// No call is an access, be it refused or not, and whatever stands in the words.
func TestNoAccess(t *testing.T) {
	m := numbered(t, 12)
	m.Load(12)
	m.Poison(6, 3)
	m.Add(7, 1)
	m.Note(api.Access{Kind: api.AccessTake, Addr: 3})
	trace, bad := m.Trace(), m.Bad()
	a, e := arena.New(m, 4)
	for _, call := range []func(){
		func() { a.Take(3) }, func() { a.Take(2) }, func() { a.Take(9) }, func() { a.Take(0) },
		func() { a.Give(4) }, func() { a.Give(4) }, func() { a.Give(5) }, func() { a.Give(-1) }, func() { a.Take(4) },
		func() { a.Take(1) }, func() { a.Give(7) }, func() { a.Blocks() }, func() { a.Live() }, func() { a.Take(8) },
		func() { arena.New(m, 0) }, func() { arena.New(m, 12) },
	} {
		call()
		if !slices.Equal(m.Trace(), trace) || m.Bad() != bad {
			t.Fatalf("the trace is %v, %d accesses were refused", m.Trace(), m.Bad())
		}
	}
	if e != api.OK {
		t.Error(e)
	}
}

// What others do with the words changes nothing of what an arena answers.
func TestWordsDoneWithOtherwise(t *testing.T) {
	m, a := both(t, 12, 2)
	wantTake(t, a, 3, 2)
	wantTake(t, a, 4, 5)
	was := a.Blocks()
	for _, do := range []func(){
		func() { m.Poison(0, 12) },
		func() { m.Clear(0, 12) },
		func() { m.Store(5, 1); m.Store(9, 7); m.Store(0, 3) },
		func() { m.Store(10, api.Poison) },
		func() { m.Note(api.Access{Kind: api.AccessFree, Addr: 2, Value: 3, Good: true}) },
		func() { m.Poison(2, 3) },
	} {
		do()
		wantBlocks(t, a, was...)
	}
	wantNoTake(t, a, 4, api.ErrRoom)
	m.Poison(0, 12)
	wantTake(t, a, 2, 9)
	wantAll(t, m, 0, 9, api.Poison)
	wantAll(t, m, 9, 2, 0)
	wantAll(t, m, 11, 1, api.Poison)
	m.Clear(0, 12)
	wantGive(t, a, 5, api.OK)
	wantGive(t, a, 5, api.ErrBlock)
	wantWords(t, m, 0, 0, 0, 0, 0, api.Poison, api.Poison, api.Poison, api.Poison, 0, 0, 0)
	m.Clear(5, 4)
	wantGive(t, a, 5, api.ErrBlock)
	m.Store(6, 44)
	wantTake(t, a, 3, 5)
	wantWords(t, m, 0, 0, 0, 0, 0, 0, 0, 0, 0, 0, 0, 0)
	wantBlocks(t, a, out(2, 3), out(5, 3), free(8, 1), out(9, 2), free(11, 1))
}

// Words below an arena's first are never touched.
func TestWordsBelowTheFirst(t *testing.T) {
	m := numbered(t, 9)
	a := over(t, m, 4)
	for range 3 {
		wantTake(t, a, 2, 4)
		wantTake(t, a, 3, 6)
		wantGive(t, a, 4, api.OK)
		wantGive(t, a, 6, api.OK)
		for addr := range 4 {
			wantAll(t, m, addr, 1, 100+addr)
		}
		wantGive(t, a, 3, api.ErrBlock)
		wantGive(t, a, 0, api.ErrBlock)
	}
}

func TestTwoMemories(t *testing.T) {
	m, a := both(t, 10, 2)
	o := numbered(t, 8)
	b := over(t, o, 2)
	wantTake(t, a, 3, 2)
	wantTake(t, b, 2, 2)
	wantTake(t, a, 5, 5)
	wantBlocks(t, a, out(2, 3), out(5, 5))
	wantBlocks(t, b, out(2, 2), free(4, 4))
	wantGive(t, b, 5, api.ErrBlock)
	wantGive(t, a, 2, api.OK)
	wantWords(t, o, 100, 101, 0, 0, 104, 105, 106, 107)
	wantGive(t, b, 2, api.OK)
	wantGive(t, b, 2, api.ErrBlock)
	wantWords(t, m, 0, 0, api.Poison, api.Poison, api.Poison, 0, 0, 0, 0, 0)
	wantWords(t, o, 100, 101, api.Poison, api.Poison, 104, 105, 106, 107)
	wantBlocks(t, a, free(2, 3), out(5, 5))
	wantBlocks(t, b, free(2, 6))
}

// Of two arenas of one memory each knows its own pieces alone: also where they have words in common.
func TestTwoOfOneMemory(t *testing.T) {
	m := numbered(t, 10)
	a, b := over(t, m, 2), over(t, m, 4)
	wantTake(t, a, 5, 2)
	wantBlocks(t, b, free(4, 6))
	wantGive(t, b, 2, api.ErrBlock)
	wantTake(t, b, 2, 4)
	wantWords(t, m, 100, 101, 0, 0, 0, 0, 0, 107, 108, 109)
	wantGive(t, a, 4, api.ErrBlock)
	wantGive(t, b, 4, api.OK)
	wantWords(t, m, 100, 101, 0, 0, api.Poison, api.Poison, 0, 107, 108, 109)
	wantBlocks(t, a, out(2, 5), free(7, 3))
	wantTake(t, b, 6, 4)
	wantWords(t, m, 100, 101, 0, 0, 0, 0, 0, 0, 0, 0)
	wantGive(t, a, 2, api.OK)
	wantBlocks(t, b, out(4, 6))
	wantWords(t, m, 100, 101, api.Poison, api.Poison, api.Poison, api.Poison, api.Poison, 0, 0, 0)
	wantBlocks(t, a, free(2, 8))
	wantNoTake(t, b, 1, api.ErrRoom)
	wantTake(t, a, 8, 2)
	c := over(t, m, 2)
	wantBlocks(t, c, free(2, 8))
}
