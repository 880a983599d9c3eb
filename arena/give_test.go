package arena_test

import (
	"math"
	"testing"

	"gatehouse/api"
	"gatehouse/arena"
	"gatehouse/cells"
)

// 15.4

// row is a memory of 14 numbered words, and an arena from 2 on: pieces of 3, 2, 1 and 4 words are out, then two words are free. What is out is numbered again.
func row(t *testing.T) (*cells.Memory, *arena.Arena) {
	t.Helper()
	m := numbered(t, 14)
	a := over(t, m, 2)
	for _, c := range [][2]int{{3, 2}, {2, 5}, {1, 7}, {4, 8}} {
		wantTake(t, a, c[0], c[1])
	}
	for addr := 2; addr < 12; addr++ {
		m.Store(addr, 100+addr)
	}
	return m, a
}

// wantPoisoned asks for the words of row's memory: those from one on up to another are poisoned, the others numbered.
func wantPoisoned(t *testing.T, m *cells.Memory, from, to int) {
	t.Helper()
	var want []int
	for addr := range 14 {
		if addr >= from && addr < to {
			want = append(want, api.Poison)
		} else {
			want = append(want, 100+addr)
		}
	}
	wantWords(t, m, want...)
}

func TestGiveOfWhatIsNotOut(t *testing.T) {
	m, a := row(t)
	was := a.Blocks()
	for _, addr := range []int{0, 1, 3, 4, 6, 9, 10, 11, 12, 13, 14, 15, -1, -2, 1 << 32, 1<<32 + 2, api.Poison, math.MinInt, math.MaxInt} {
		wantGive(t, a, addr, api.ErrBlock)
		wantBlocks(t, a, was...)
		wantPoisoned(t, m, 0, 0)
	}
	_, none := both(t, 5, 0)
	for addr := -1; addr < 6; addr++ {
		wantGive(t, none, addr, api.ErrBlock)
	}
	wantBlocks(t, none, free(0, 5))
}

// Twice, also if the piece has been joined meanwhile, or its words are out again as part of another one.
func TestGiveTwice(t *testing.T) {
	_, a := row(t)
	wantGive(t, a, 5, api.OK)
	wantGive(t, a, 5, api.ErrBlock)
	wantGive(t, a, 2, api.OK)
	wantGive(t, a, 5, api.ErrBlock)
	wantGive(t, a, 2, api.ErrBlock)
	wantTake(t, a, 4, 2)
	wantGive(t, a, 5, api.ErrBlock)
	wantGive(t, a, 6, api.ErrBlock)
	wantBlocks(t, a, out(2, 4), free(6, 1), out(7, 1), out(8, 4), free(12, 2))
	wantGive(t, a, 2, api.OK)
	wantGive(t, a, 2, api.ErrBlock)
}

// Taken again at the same address it may be given again, with the words that it has now.
func TestGivenAndTakenAgain(t *testing.T) {
	m, a := both(t, 8, 1)
	for n := 1; n <= 7; n++ {
		wantTake(t, a, n, 1)
		wantGive(t, a, 1, api.OK)
		wantBlocks(t, a, free(1, 7))
		wantAll(t, m, 1, n, api.Poison)
		wantAll(t, m, 1+n, 7-n, 0)
		wantAll(t, m, 0, 1, 0)
	}
}

// Joined with nothing, with the one ahead, with the one behind, with both; the words that are poisoned are those of the piece.
func TestGiveJoins(t *testing.T) {
	for _, c := range []struct {
		name     string
		give     []int
		last     int
		from, to int
		want     []api.Block
	}{
		{"alone", nil, 5, 5, 7, []api.Block{out(2, 3), free(5, 2), out(7, 1), out(8, 4), free(12, 2)}},
		{"alone, the first", nil, 2, 2, 5, []api.Block{free(2, 3), out(5, 2), out(7, 1), out(8, 4), free(12, 2)}},
		{"ahead", []int{2}, 5, 5, 7, []api.Block{free(2, 5), out(7, 1), out(8, 4), free(12, 2)}},
		{"behind", []int{7}, 5, 5, 7, []api.Block{out(2, 3), free(5, 3), out(8, 4), free(12, 2)}},
		{"both", []int{2, 7}, 5, 5, 7, []api.Block{free(2, 6), out(8, 4), free(12, 2)}},
		{"both, the other way", []int{7, 2}, 5, 5, 7, []api.Block{free(2, 6), out(8, 4), free(12, 2)}},
		{"behind, the rest", nil, 8, 8, 12, []api.Block{out(2, 3), out(5, 2), out(7, 1), free(8, 6)}},
		{"both, the rest", []int{7}, 8, 8, 12, []api.Block{out(2, 3), out(5, 2), free(7, 7)}},
		{"two ahead", []int{2, 5}, 7, 7, 8, []api.Block{free(2, 6), out(8, 4), free(12, 2)}},
		{"two ahead, the other way", []int{5, 2}, 7, 7, 8, []api.Block{free(2, 6), out(8, 4), free(12, 2)}},
		{"all", []int{5, 8, 2}, 7, 7, 8, []api.Block{free(2, 12)}},
		{"not beside", []int{2}, 7, 7, 8, []api.Block{free(2, 3), out(5, 2), free(7, 1), out(8, 4), free(12, 2)}},
	} {
		m, a := row(t)
		for _, addr := range c.give {
			wantGive(t, a, addr, api.OK)
		}
		m.Clear(0, 14)
		for addr := range 14 {
			m.Store(addr, 100+addr)
		}
		wantGive(t, a, c.last, api.OK)
		wantBlocks(t, a, c.want...)
		wantPoisoned(t, m, c.from, c.to)
		if t.Failed() {
			t.Fatal(c.name)
		}
	}
}

// What was joined can be had as one, also if nobody looked in between.
func TestJoinedIsHadAsOne(t *testing.T) {
	for _, c := range []struct {
		give    []int
		n, want int
		code    api.Errno
	}{
		{[]int{2, 5}, 5, 2, api.OK},
		{[]int{5, 2}, 5, 2, api.OK},
		{[]int{5, 2}, 6, 0, api.ErrRoom},
		{[]int{5, 7}, 3, 5, api.OK},
		{[]int{7, 2, 5}, 6, 2, api.OK},
		{[]int{7, 2}, 4, 0, api.ErrRoom},
		{[]int{8}, 6, 8, api.OK},
		{[]int{8, 2}, 6, 8, api.OK},
		{[]int{8, 7, 2}, 7, 7, api.OK},
		{[]int{8, 7, 5, 2}, 12, 2, api.OK},
		{[]int{2, 5, 7, 8}, 12, 2, api.OK},
		{[]int{7, 5, 8, 2}, 13, 0, api.ErrRoom},
		{[]int{7, 5, 8, 2}, 7, 2, api.OK},
	} {
		m, a := row(t)
		for _, addr := range c.give {
			wantGive(t, a, addr, api.OK)
		}
		if addr, e := a.Take(c.n); addr != c.want || e != c.code {
			t.Errorf("behind Give of %v: Take(%d) = %d, %v, want %d, %v", c.give, c.n, addr, e, c.want, c.code)
		}
		if c.code == api.OK {
			wantAll(t, m, c.want, c.n, 0)
		}
	}
}

// A piece of all words, in a small memory and in the greatest.
func TestGiveOfAll(t *testing.T) {
	for _, n := range []int{1, 2, 77, api.MaxWords} {
		m, a := both(t, n, 0)
		wantTake(t, a, n, 0)
		wantGive(t, a, 0, api.OK)
		wantAll(t, m, 0, n, api.Poison)
		wantBlocks(t, a, free(0, n))
		wantGive(t, a, 0, api.ErrBlock)
		wantTake(t, a, n, 0)
		wantAll(t, m, 0, n, 0)
	}
}
