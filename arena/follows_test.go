package arena_test

import (
	"slices"
	"testing"

	"gatehouse/api"
	"gatehouse/arena"
)

// 15.7

// wantCovered asks that the pieces cover the words from one on up to another, and no two free ones lie beside one another; the greatest free one's size.
func wantCovered(t *testing.T, a *arena.Arena, from, to int) int {
	t.Helper()
	at, greatest, ahead := from, 0, false
	for _, b := range a.Blocks() {
		if b.Addr != at || b.Size < 1 {
			t.Errorf("the piece %v stands where %d should begin", b, at)
		}
		if b.Free && ahead {
			t.Errorf("the piece %v lies beside another free one", b)
		}
		if b.Free {
			greatest = max(greatest, b.Size)
		}
		at, ahead = b.Addr+b.Size, b.Free
	}
	if at != to {
		t.Errorf("the pieces end at %d, want %d", at, to)
	}
	return greatest
}

// wantGreatest asks that so many words can be had at once, and no more.
func wantGreatest(t *testing.T, a *arena.Arena, n int) {
	t.Helper()
	was := a.Blocks()
	wantNoTake(t, a, n+1, api.ErrRoom)
	wantBlocks(t, a, was...)
	if n == 0 {
		return
	}
	addr, e := a.Take(n)
	if e != api.OK || !slices.Contains(was, free(addr, n)) {
		t.Errorf("Take(%d) = %d, %v of %v", n, addr, e, was)
	}
	wantGive(t, a, addr, api.OK)
	wantBlocks(t, a, was...)
}

func TestWhatFollows(t *testing.T) {
	d := dice(157)
	for row := range 150 {
		n := 2 + d.throw(80)
		from := d.throw(n)
		_, a := both(t, n, from)
		held := map[int]int{}
		for i := range 200 {
			if size := 1 + d.throw(8); d.throw(2) == 0 {
				if addr, e := a.Take(size); e == api.OK {
					wantApart(t, held, addr, size)
					held[addr] = size
				}
			} else if addr, ok := some(&d, held); ok {
				wantGive(t, a, addr, api.OK)
				delete(held, addr)
			}
			wantGreatest(t, a, wantCovered(t, a, from, n))
			if t.Failed() {
				t.Fatalf("row %d, %d words from %d on, behind %d calls", row, n, from, i)
			}
		}
		for addr, ok := some(&d, held); ok; addr, ok = some(&d, held) {
			wantGive(t, a, addr, api.OK)
			delete(held, addr)
		}
		wantBlocks(t, a, free(from, n-from))
	}
}

// wantApart asks that a piece shares no word with those that are held.
func wantApart(t *testing.T, held map[int]int, addr, size int) {
	t.Helper()
	for other, n := range held {
		if addr < other+n && other < addr+size {
			t.Errorf("{%d %d} and {%d %d} are both out", addr, size, other, n)
		}
	}
}

// some is an address that is held, by the dice.
func some(d *dice, held map[int]int) (int, bool) {
	var l []int
	for addr := range held {
		l = append(l, addr)
	}
	if len(l) == 0 {
		return 0, false
	}
	slices.Sort(l)
	return l[d.throw(len(l))], true
}

// The greatest memory in pieces of one word, given back rising, falling, the even ones first, and thrown: then there is one piece again.
func TestManyPieces(t *testing.T) {
	const from, n = 36, api.MaxWords
	var rising []int
	for addr := from; addr < n; addr++ {
		rising = append(rising, addr)
	}
	falling := slices.Clone(rising)
	slices.Reverse(falling)
	var even, odd []int
	for i, addr := range rising {
		if i%2 == 0 {
			even = append(even, addr)
		} else {
			odd = append(odd, addr)
		}
	}
	thrown, d := slices.Clone(rising), dice(5)
	for i := range thrown {
		j := i + d.throw(len(thrown)-i)
		thrown[i], thrown[j] = thrown[j], thrown[i]
	}
	for name, order := range map[string][]int{"rising": rising, "falling": falling, "even first": slices.Concat(even, odd), "thrown": thrown} {
		m, a := both(t, n, from)
		for _, addr := range rising {
			if p, e := a.Take(1); p != addr || e != api.OK {
				t.Fatalf("Take(1) = %d, %v, want %d", p, e, addr)
			}
		}
		wantNoTake(t, a, 1, api.ErrRoom)
		for _, addr := range order[:len(order)/2] {
			wantGive(t, a, addr, api.OK)
		}
		if a.Live() != len(order)-len(order)/2 {
			t.Errorf("%s: %d are out", name, a.Live())
		}
		wantCovered(t, a, from, n)
		for _, addr := range order[len(order)/2:] {
			wantGive(t, a, addr, api.OK)
		}
		wantBlocks(t, a, free(from, n-from))
		wantAll(t, m, from, n-from, api.Poison)
		wantTake(t, a, n-from, from)
		wantAll(t, m, from, n-from, 0)
		if t.Failed() {
			t.Fatal(name)
		}
	}
}
