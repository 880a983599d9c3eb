package arena_test

import (
	"math"
	"slices"
	"testing"

	"gatehouse/arena"
)

// 15.1, where less is no order.

// noOrders are some, by what is wrong with them; each call makes them anew, because some of them remember.
func noOrders() map[string]func(a, b pair) bool {
	calls, d := 0, dice(3)
	return map[string]func(a, b pair) bool{
		"always":          func(a, b pair) bool { return true },
		"at most":         func(a, b pair) bool { return a.key <= b.key },
		"ring":            func(a, b pair) bool { return (b.key-a.key+30)%3 == 1 },
		"not equal":       func(a, b pair) bool { return a.key != b.key },
		"near is alike":   func(a, b pair) bool { return a.key+1 < b.key },
		"the first alone": func(a, b pair) bool { return a.key == 0 },
		"by turns":        func(a, b pair) bool { calls++; return calls%2 == 0 },
		"by chance":       func(a, b pair) bool { return d.throw(2) == 0 },
		"turns round":     func(a, b pair) bool { calls++; return (a.key < b.key) == (calls%20 < 10) },
		"odd":             func(a, b pair) bool { return (a.key+b.key)%2 == 1 },
	}
}

// without takes one out of a list; false, if it is not in.
func without(list []pair, x pair) ([]pair, bool) {
	at := slices.Index(list, x)
	if at < 0 {
		return list, false
	}
	return slices.Delete(list, at, at+1), true
}

func TestNoOrder(t *testing.T) {
	for name, less := range noOrders() {
		d := dice(15)
		h := arena.NewHeap(less)
		var in []pair
		for n := range 3000 {
			if d.throw(10) < 5 {
				x := pair{d.throw(8), n / 2 * 2}
				h.Push(x)
				in = append(in, x)
			} else {
				in = popAny(t, h, in)
			}
			if h.Len() != len(in) {
				t.Errorf("Len() = %d, want %d", h.Len(), len(in))
			}
			if t.Failed() {
				t.Fatalf("%s, behind %d calls", name, n)
			}
		}
		for len(in) > 0 && !t.Failed() {
			in = popAny(t, h, in)
		}
		wantNone(t, h)
		if t.Failed() {
			t.Fatal(name)
		}
	}
}

// popAny asks for one, which must be in; what is in behind that.
func popAny(t *testing.T, h *arena.Heap[pair], in []pair) []pair {
	t.Helper()
	if len(in) == 0 {
		wantNone(t, h)
		return in
	}
	if x, ok := h.Peek(); !ok || !slices.Contains(in, x) {
		t.Errorf("Peek() = %v, %v: that is not in", x, ok)
	}
	x, ok := h.Pop()
	rest, was := without(in, x)
	if !ok || !was {
		t.Errorf("Pop() = %v, %v: that is not in", x, ok)
	}
	return rest
}

// NaN is less than nothing, and nothing is less than it: with other floats that is no order.
func TestNoOrderOfFloats(t *testing.T) {
	nan := math.NaN()
	for code := range 4 * 4 * 4 * 4 * 4 {
		h := arena.NewHeap(func(a, b float64) bool { return a < b })
		counts := map[uint64]int{}
		for i, c := 0, code; i < 5; i, c = i+1, c/4 {
			x := []float64{nan, 0, 1, math.Inf(-1)}[c%4]
			h.Push(x)
			counts[math.Float64bits(x)]++
		}
		for n := 5; n > 0; n-- {
			x, ok := h.Pop()
			counts[math.Float64bits(x)]--
			if !ok || counts[math.Float64bits(x)] < 0 || h.Len() != n-1 {
				t.Fatalf("%d: Pop() = %v, %v, %d are left", code, x, ok, h.Len())
			}
		}
		if x, ok := h.Pop(); ok || x != 0 {
			t.Fatalf("%d: Pop of none = %v, %v", code, x, ok)
		}
	}
}
