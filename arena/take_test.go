package arena_test

import (
	"math"
	"slices"
	"testing"

	"gatehouse/api"
	"gatehouse/arena"
)

// 15.3

func TestTakeOfTooFew(t *testing.T) {
	m := numbered(t, 6)
	a := over(t, m, 2)
	for _, n := range []int{0, -1, -2, -4, -1 << 32, api.Poison, math.MinInt + 1, math.MinInt} {
		wantNoTake(t, a, n, api.ErrArg)
	}
	wantBlocks(t, a, free(2, 4))
	wantWords(t, m, 100, 101, 102, 103, 104, 105)
	wantTake(t, a, 4, 2)
	wantNoTake(t, a, 0, api.ErrArg) // also where no piece is free
	wantNoTake(t, a, -1, api.ErrArg)
	wantBlocks(t, a, out(2, 4))
}

func TestTakeOfTooMany(t *testing.T) {
	for _, from := range []int{0, 2, 5} {
		m := numbered(t, 6)
		a := over(t, m, from)
		for _, n := range []int{6 - from + 1, 6 - from + 2, 7, 12, api.MaxWords, 1 << 32, 1<<32 + 1, 1 << 62, math.MaxInt - 5, math.MaxInt - 1, math.MaxInt} {
			wantNoTake(t, a, n, api.ErrRoom)
		}
		wantBlocks(t, a, free(from, 6-from))
		wantWords(t, m, 100, 101, 102, 103, 104, 105)
		wantTake(t, a, 6-from, from)
	}
}

// Just all words, and one less.
func TestTakeOfAll(t *testing.T) {
	for _, n := range []int{1, 2, 3, 64, api.MaxWords} {
		for _, from := range []int{0, n / 2, n - 1} {
			m, a := both(t, n, from)
			m.Poison(0, n)
			wantTake(t, a, n-from, from)
			wantBlocks(t, a, out(from, n-from))
			wantAll(t, m, 0, from, api.Poison)
			wantAll(t, m, from, n-from, 0)
			wantNoTake(t, a, 1, api.ErrRoom)
			wantNoTake(t, a, math.MaxInt, api.ErrRoom)
			if n-from > 1 {
				_, b := both(t, n, from)
				wantTake(t, b, n-from-1, from)
				wantBlocks(t, b, out(from, n-from-1), free(n-1, 1))
			}
		}
	}
}

// The words that are taken are 0, whatever stood there, and no other changes.
func TestTakeClearsItsWordsAlone(t *testing.T) {
	m := numbered(t, 9)
	m.Poison(4, 1)
	a := over(t, m, 3)
	wantTake(t, a, 3, 3)
	wantWords(t, m, 100, 101, 102, 0, 0, 0, 106, 107, 108)
	wantTake(t, a, 1, 6)
	wantWords(t, m, 100, 101, 102, 0, 0, 0, 0, 107, 108)
	wantNoTake(t, a, 3, api.ErrRoom)
	wantWords(t, m, 100, 101, 102, 0, 0, 0, 0, 107, 108)
	wantTake(t, a, 2, 7)
	wantWords(t, m, 100, 101, 102, 0, 0, 0, 0, 0, 0)
}

// holes makes an arena from 1 on of free pieces of these sizes, each behind a piece of one word that is out; the rest is out too.
func holes(t *testing.T, sizes ...int) *arena.Arena {
	t.Helper()
	n := 2
	for _, size := range sizes {
		n += 1 + size
	}
	_, a := both(t, n, 1)
	var give []int
	for _, size := range sizes {
		a.Take(1)
		addr, _ := a.Take(size)
		give = append(give, addr)
	}
	wantTake(t, a, 1, n-1)
	for _, addr := range slices.Backward(give) {
		wantGive(t, a, addr, api.OK)
	}
	return a
}

// Of the pieces that have so many words it is the lowest, be it the least or the greatest; those below it stay as they are.
func TestTakeOfTheLowest(t *testing.T) {
	for _, c := range []struct {
		sizes   []int
		n, want int
	}{
		{[]int{2, 3, 1, 4}, 1, 2},
		{[]int{2, 3, 1, 4}, 2, 2},
		{[]int{2, 3, 1, 4}, 3, 5},
		{[]int{2, 3, 1, 4}, 4, 11},
		{[]int{9, 3, 3, 3}, 3, 2},
		{[]int{1, 9, 3, 2}, 2, 4},
		{[]int{1, 9, 3, 2}, 3, 4},
		{[]int{1, 2, 3, 4, 5, 6, 7, 8}, 8, 37},
		{[]int{8, 7, 6, 5, 4, 3, 2, 1}, 8, 2},
		{[]int{8, 7, 6, 5, 4, 3, 2, 1}, 1, 2},
		{[]int{1, 1, 1, 1, 1, 1, 2, 1}, 2, 14},
	} {
		a := holes(t, c.sizes...)
		var want []api.Block
		for _, b := range a.Blocks() {
			if b.Addr != c.want {
				want = append(want, b)
				continue
			}
			want = append(want, out(b.Addr, c.n))
			if b.Size > c.n {
				want = append(want, free(b.Addr+c.n, b.Size-c.n))
			}
		}
		wantTake(t, a, c.n, c.want)
		wantBlocks(t, a, want...)
		if t.Failed() {
			t.Fatal(c)
		}
	}
}

// One behind the other, until none is left: each begins where the one ahead ends.
func TestTakeOneBehindTheOther(t *testing.T) {
	_, a := both(t, 40, 4)
	at := 4
	for n := 1; at+n <= 40; n++ {
		wantTake(t, a, n, at)
		at += n
	}
	wantBlocks(t, a, out(4, 1), out(5, 2), out(7, 3), out(10, 4), out(14, 5), out(19, 6), out(25, 7), out(32, 8))
	wantNoTake(t, a, 1, api.ErrRoom)
}

// A take that was refused changes nothing; a smaller one may go well, and another one when a piece was given back.
func TestTakeBehindARefusedOne(t *testing.T) {
	a := holes(t, 2, 3, 1)
	was := a.Blocks()
	for _, n := range []int{4, 5, 100, math.MaxInt, 0, -1} {
		if addr, e := a.Take(n); addr != 0 || e == api.OK {
			t.Errorf("Take(%d) = %d, %v", n, addr, e)
		}
		wantBlocks(t, a, was...)
	}
	wantGive(t, a, 4, api.OK)
	wantTake(t, a, 4, 2)
	wantBlocks(t, a, out(1, 1), out(2, 4), free(6, 2), out(8, 1), free(9, 1), out(10, 1))
	wantNoTake(t, a, 3, api.ErrRoom)
	wantTake(t, a, 2, 6)
	wantTake(t, a, 1, 9)
	wantNoTake(t, a, 1, api.ErrRoom)
}

// What lies in several free pieces can't be had as one.
func TestTakeOfScatteredWords(t *testing.T) {
	a := holes(t, 1, 1, 1, 1, 1)
	wantNoTake(t, a, 2, api.ErrRoom)
	for i := range 5 {
		wantTake(t, a, 1, 2+2*i)
	}
	wantNoTake(t, a, 1, api.ErrRoom)
}
