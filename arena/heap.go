package arena

import "slices"

// Heap hands out the least thing first.
type Heap[T any] struct {
	less func(a, b T) bool
	// items is a tree: none is ahead of the one above it, which for the item at i stands at (i - 1) / 2
	items []item[T]
	count int // how many were ever put in
}

// item is a thing with its turn, which tells what was put in first where neither thing is less.
type item[T any] struct {
	thing T
	turn  int
}

// NewHeap is an empty heap by an order.
func NewHeap[T any](less func(a, b T) bool) *Heap[T] {
	if less == nil {
		return nil
	}
	return &Heap[T]{less: less}
}

// Push puts a thing in.
func (h *Heap[T]) Push(x T) {
	h.items = append(h.items, item[T]{x, h.count})
	h.count++
	h.rise(len(h.items) - 1)
}

// Pop takes the least thing out.
func (h *Heap[T]) Pop() (x T, ok bool) {
	x, ok = h.Peek()
	if ok {
		last := len(h.items) - 1
		h.swap(0, last)
		h.items[last] = item[T]{} // what was taken out is not kept
		h.items = h.items[:last]
		h.sink(0)
	}
	return x, ok
}

// Peek is the least thing.
func (h *Heap[T]) Peek() (x T, ok bool) {
	if len(h.items) == 0 {
		return x, false
	}
	return h.items[0].thing, true
}

// Len is how many are in.
func (h *Heap[T]) Len() int { return len(h.items) }

// ahead says whether the item at i comes out ahead of the one at j.
func (h *Heap[T]) ahead(i, j int) bool {
	a, b := h.items[i], h.items[j]
	if a.turn < b.turn {
		return !h.less(b.thing, a.thing)
	}
	return h.less(a.thing, b.thing)
}

func (h *Heap[T]) swap(i, j int) {
	h.items[i], h.items[j] = h.items[j], h.items[i]
}

// rise brings an item up to its place.
func (h *Heap[T]) rise(at int) {
	for at > 0 {
		above := (at - 1) / 2
		if !h.ahead(at, above) {
			return
		}
		h.swap(at, above)
		at = above
	}
}

// sink brings an item down to its place.
func (h *Heap[T]) sink(at int) {
	for {
		first := at
		for below := 2*at + 1; below <= 2*at+2 && below < len(h.items); below++ {
			if h.ahead(below, first) {
				first = below
			}
		}
		if first == at {
			return
		}
		h.swap(at, first)
		at = first
	}
}

// copied is a heap with the same things, which goes its own way.
func (h *Heap[T]) copied() *Heap[T] {
	return &Heap[T]{less: h.less, items: slices.Clone(h.items), count: h.count}
}
