package arena_test

import (
	"cmp"
	"math"
	"slices"
	"strings"
	"testing"

	"gatehouse/arena"
)

// 15.1, where less is an order.

func ints(a, b int) bool { return a < b }

func shorter(a, b string) bool { return len(a) < len(b) }

// pair is a thing with a mark that its order does not look at.
type pair struct{ key, mark int }

func byKey(a, b pair) bool { return a.key < b.key }

func wantPop[T comparable](t *testing.T, h *arena.Heap[T], want ...T) {
	t.Helper()
	for i, w := range want {
		if x, ok := h.Peek(); x != w || !ok {
			t.Errorf("Peek %d = %v, %v, want %v", i, x, ok, w)
		}
		if n := h.Len(); n < len(want)-i {
			t.Errorf("ahead of Pop %d: Len() = %d", i, n)
		}
		if x, ok := h.Pop(); x != w || !ok {
			t.Errorf("Pop %d = %v, %v, want %v", i, x, ok, w)
		}
	}
}

func wantNone[T comparable](t *testing.T, h *arena.Heap[T]) {
	t.Helper()
	var zero T
	for range 2 {
		if x, ok := h.Peek(); x != zero || ok {
			t.Errorf("Peek of none = %v, %v", x, ok)
		}
		if x, ok := h.Pop(); x != zero || ok {
			t.Errorf("Pop of none = %v, %v", x, ok)
		}
		if n := h.Len(); n != 0 {
			t.Errorf("Len of none = %d", n)
		}
	}
}

func push[T any](h *arena.Heap[T], things ...T) {
	for _, x := range things {
		h.Push(x)
	}
}

func TestHeapExamples(t *testing.T) {
	h := arena.NewHeap(ints)
	wantNone(t, h)
	push(h, 5, 3, 9, 3)
	if x, ok := h.Peek(); h.Len() != 4 || x != 3 || !ok {
		t.Errorf("Len %d, Peek %d, %v", h.Len(), x, ok)
	}
	wantPop(t, h, 3, 3, 5, 9)
	wantNone(t, h)
	g := arena.NewHeap(shorter)
	push(g, "bb", "a", "cc", "d")
	wantPop(t, g, "a", "d", "bb", "cc")
	wantNone(t, g)
}

func TestNewHeapOfNil(t *testing.T) {
	if h := arena.NewHeap[int](nil); h != nil {
		t.Error("NewHeap[int](nil) is a heap")
	}
	if h := arena.NewHeap[string](nil); h != nil {
		t.Error("NewHeap[string](nil) is a heap")
	}
	if h := arena.NewHeap[func()](nil); h != nil {
		t.Error("NewHeap[func()](nil) is a heap")
	}
	var less func(a, b pair) bool
	if h := arena.NewHeap(less); h != nil {
		t.Error("NewHeap of a nil function is a heap")
	}
}

// It is empty again, and goes on as a new one does.
func TestHeapFilledAgain(t *testing.T) {
	h := arena.NewHeap(ints)
	for round := range 5 {
		push(h, round, -round, 7)
		wantPop(t, h, -round, round, 7)
		wantNone(t, h)
	}
}

// The zero value may be in a heap: what tells is ok.
func TestZeroThings(t *testing.T) {
	h := arena.NewHeap(ints)
	push(h, 0, 0, -1, 1)
	wantPop(t, h, -1, 0, 0, 1)
	wantNone(t, h)
	g := arena.NewHeap(shorter)
	push(g, "", "x", "")
	wantPop(t, g, "", "", "x")
	wantNone(t, g)
}

func TestEdgesOfInts(t *testing.T) {
	h := arena.NewHeap(ints)
	push(h, math.MaxInt, 0, math.MinInt, -1, math.MaxInt, math.MinInt, 1)
	wantPop(t, h, math.MinInt, math.MinInt, -1, 0, 1, math.MaxInt, math.MaxInt)
	wantNone(t, h)
}

// The order is what less says it is, not what < says.
func TestOtherOrders(t *testing.T) {
	down := arena.NewHeap(func(a, b int) bool { return a > b })
	push(down, 4, 6, 1, 6, 5)
	wantPop(t, down, 6, 6, 5, 4, 1)
	last := arena.NewHeap(func(a, b int) bool { return a%10 < b%10 })
	push(last, 31, 20, 11, 92, 10, 1)
	wantPop(t, last, 20, 10, 31, 11, 1, 92)
	texts := arena.NewHeap(func(a, b string) bool { return strings.ToLower(a) < strings.ToLower(b) })
	push(texts, "b", "B", "A", "c", "a", "b")
	wantPop(t, texts, "A", "a", "b", "B", "b", "c")
	bytes := arena.NewHeap(func(a, b string) bool { return a < b })
	push(bytes, "b", "B", "\xff", "", "ä", "a\x00", "a")
	wantPop(t, bytes, "", "B", "a", "a\x00", "b", "ä", "\xff")
}

// Where no thing is less than another they come out as they came in.
func TestAllAlike(t *testing.T) {
	h := arena.NewHeap(func(a, b pair) bool { return false })
	var want []pair
	for i := range 100 {
		want = append(want, pair{100 - i, i})
	}
	push(h, want...)
	wantPop(t, h, want...)
	wantNone(t, h)
}

// Of alike things the first comes first, also if others came and went in between, and one that was taken out and put in again is the last.
func TestAlikeInTheirOrder(t *testing.T) {
	h := arena.NewHeap(byKey)
	push(h, pair{2, 1}, pair{1, 2}, pair{2, 3}, pair{1, 4})
	wantPop(t, h, pair{1, 2})
	push(h, pair{1, 5}, pair{2, 6}, pair{0, 7}, pair{1, 2})
	wantPop(t, h, pair{0, 7}, pair{1, 4}, pair{1, 5}, pair{1, 2}, pair{2, 1})
	push(h, pair{2, 1}, pair{2, 8})
	wantPop(t, h, pair{2, 3}, pair{2, 6}, pair{2, 1}, pair{2, 8})
	wantNone(t, h)
}

// A thing that is put in again and again is in for each time.
func TestEachForItself(t *testing.T) {
	h := arena.NewHeap(ints)
	for n := range 50 {
		if h.Len() != n {
			t.Fatalf("Len() = %d, want %d", h.Len(), n)
		}
		h.Push(7)
	}
	for n := 50; n > 0; n-- {
		if h.Len() != n {
			t.Fatalf("Len() = %d, want %d", h.Len(), n)
		}
		wantPop(t, h, 7)
	}
	wantNone(t, h)
	box := new(pair)
	p := arena.NewHeap(func(a, b *pair) bool { return a.key < b.key })
	push(p, box, box, box)
	wantPop(t, p, box, box, box)
	wantNone(t, p)
}

func TestPeekTakesNothingOut(t *testing.T) {
	h := arena.NewHeap(byKey)
	push(h, pair{3, 1}, pair{2, 2}, pair{2, 3})
	for range 5 {
		if x, ok := h.Peek(); x != (pair{2, 2}) || !ok || h.Len() != 3 {
			t.Errorf("Peek() = %v, %v of %d", x, ok, h.Len())
		}
	}
	wantPop(t, h, pair{2, 2}, pair{2, 3}, pair{3, 1})
}

// Things that can't be compared, that have no words, that are held by a pointer or an interface.
func TestThingsOfAllKinds(t *testing.T) {
	lists := arena.NewHeap(func(a, b []int) bool { return slices.Compare(a, b) < 0 })
	push(lists, []int{2}, nil, []int{1, 5}, []int{1})
	for _, want := range [][]int{nil, {1}, {1, 5}, {2}} {
		if x, ok := lists.Pop(); !slices.Equal(x, want) || !ok {
			t.Errorf("Pop() = %v, %v, want %v", x, ok, want)
		}
	}
	if x, ok := lists.Pop(); x != nil || ok {
		t.Errorf("Pop of none = %v, %v", x, ok)
	}
	calls := arena.NewHeap(func(a, b func() int) bool { return a() < b() })
	push(calls, func() int { return 2 }, func() int { return 1 })
	for _, want := range []int{1, 2} {
		if f, ok := calls.Pop(); !ok || f() != want {
			t.Errorf("Pop() = %v, want the call of %d", ok, want)
		}
	}
	if f, ok := calls.Peek(); f != nil || ok {
		t.Errorf("Peek of none: %v", ok)
	}
	nothing := arena.NewHeap(func(a, b struct{}) bool { return false })
	push(nothing, struct{}{}, struct{}{}, struct{}{})
	if nothing.Len() != 3 {
		t.Errorf("Len() = %d", nothing.Len())
	}
	wantPop(t, nothing, struct{}{}, struct{}{}, struct{}{})
	wantNone(t, nothing)
	boxed := arena.NewHeap(func(a, b any) bool { return a.(int) < b.(int) })
	push[any](boxed, 3, 1, 2)
	wantPop[any](t, boxed, 1, 2, 3)
	wantNone(t, boxed)
}

// Two heaps by one order share nothing.
func TestTwoHeaps(t *testing.T) {
	one, other := arena.NewHeap(byKey), arena.NewHeap(byKey)
	push(one, pair{1, 1}, pair{3, 1})
	push(other, pair{2, 2}, pair{1, 2}, pair{0, 2})
	wantPop(t, one, pair{1, 1})
	push(other, pair{1, 3})
	push(one, pair{3, 4})
	wantPop(t, other, pair{0, 2}, pair{1, 2}, pair{1, 3}, pair{2, 2})
	wantPop(t, one, pair{3, 1}, pair{3, 4})
	wantNone(t, one)
	wantNone(t, other)
}

// All lists of up to seven things of three keys.
func TestAllShortLists(t *testing.T) {
	for n := range 8 {
		total := 1
		for range n {
			total *= 3
		}
		for code := range total {
			h := arena.NewHeap(byKey)
			var list []pair
			for i, c := 0, code; i < n; i, c = i+1, c/3 {
				list = append(list, pair{c % 3, i})
			}
			push(h, list...)
			slices.SortStableFunc(list, func(a, b pair) int { return cmp.Compare(a.key, b.key) })
			wantPop(t, h, list...)
			wantNone(t, h)
			if t.Failed() {
				t.Fatalf("%d things, %d", n, code)
			}
		}
	}
}

// All orders of seven things.
func TestAllOrders(t *testing.T) {
	var permute func(list []int, k int)
	permute = func(list []int, k int) {
		if k == len(list) {
			h := arena.NewHeap(ints)
			push(h, list...)
			wantPop(t, h, 0, 1, 2, 3, 4, 5, 6)
			wantNone(t, h)
			if t.Failed() {
				t.Fatal(list)
			}
			return
		}
		for i := k; i < len(list); i++ {
			next := slices.Clone(list)
			next[k], next[i] = next[i], next[k]
			permute(next, k+1)
		}
	}
	permute([]int{0, 1, 2, 3, 4, 5, 6}, 0)
}

// dice is a row of numbers that is the same in each run.
type dice uint64

func (d *dice) throw(n int) int {
	*d = *d*6364136223846793005 + 1442695040888963407
	return int(uint64(*d>>33) % uint64(n))
}

// least is the place of what a heap of these things would answer: a second reckoning, of a plain list in the order in which they came.
func least[T any](list []T, less func(a, b T) bool) int {
	best := 0
	for i := range list {
		if less(list[i], list[best]) {
			best = i
		}
	}
	return best
}

func longRows[T comparable](t *testing.T, seed dice, less func(a, b T) bool, thing func(d *dice, n int) T) {
	t.Helper()
	d := seed
	for row := range 60 {
		h := arena.NewHeap(less)
		var list []T
		lean := d.throw(6) // some rows grow, some stay small
		for n := range 600 {
			if d.throw(10) < 3+lean {
				x := thing(&d, n)
				h.Push(x)
				list = append(list, x)
			} else if len(list) == 0 {
				wantNone(t, h)
			} else {
				at := least(list, less)
				wantPop(t, h, list[at])
				list = slices.Delete(list, at, at+1)
			}
			if h.Len() != len(list) {
				t.Errorf("Len() = %d, want %d", h.Len(), len(list))
			}
			if t.Failed() {
				t.Fatalf("row %d, behind %d calls", row, n)
			}
		}
	}
}

func TestLongRowsOfInts(t *testing.T) {
	longRows(t, 15, ints, func(d *dice, n int) int { return d.throw(50) - 25 })
}

func TestLongRowsOfTexts(t *testing.T) {
	longRows(t, 151, shorter, func(d *dice, n int) string {
		return strings.Repeat(string(rune('a'+d.throw(26))), d.throw(9))
	})
}

func TestLongRowsOfPairs(t *testing.T) {
	longRows(t, 1515, byKey, func(d *dice, n int) pair { return pair{d.throw(5), n} })
}

// Rising, falling, thrown, all of few keys: many things.
func TestManyThings(t *testing.T) {
	const many = 100000
	d := dice(7)
	for name, key := range map[string]func(i int) int{
		"rising":  func(i int) int { return i },
		"falling": func(i int) int { return -i },
		"thrown":  func(i int) int { return d.throw(many) },
		"few":     func(i int) int { return i * 7 % 3 },
	} {
		h := arena.NewHeap(byKey)
		var list []pair
		for i := range many {
			list = append(list, pair{key(i), i})
		}
		push(h, list...)
		slices.SortStableFunc(list, func(a, b pair) int { return cmp.Compare(a.key, b.key) })
		for i, want := range list {
			if x, ok := h.Pop(); x != want || !ok {
				t.Fatalf("%s: Pop %d = %v, %v, want %v", name, i, x, ok, want)
			}
		}
		wantNone(t, h)
	}
}
