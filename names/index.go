package names

import (
	"iter"

	"gatehouse/api"
)

// Index gives numbers to things, from 1 on, in the order in which they come.
type Index[K comparable] struct {
	things  []K // the thing with the number n stands at n - 1; what stands there never changes
	numbers map[K]int
}

// NewIndex is an empty index.
func NewIndex[K comparable]() *Index[K] {
	return &Index[K]{numbers: make(map[K]int)}
}

// Of is a thing's number; a thing that has none gets the next one.
func (x *Index[K]) Of(k K) int {
	if n, ok := x.numbers[k]; ok {
		return n
	}
	if len(x.things) >= api.MaxSymbols {
		return 0
	}
	x.things = append(x.things, k)
	if k == k { // what is not the same as itself would lie in the map and never be found
		x.numbers[k] = len(x.things)
	}
	return len(x.things)
}

// Find is a thing's number, if it has one.
func (x *Index[K]) Find(k K) (int, bool) {
	n, ok := x.numbers[k]
	return n, ok
}

// At is the thing that has a number.
func (x *Index[K]) At(n int) (k K, ok bool) {
	if n < 1 || n > len(x.things) {
		return k, false
	}
	return x.things[n-1], true
}

// Len is how many things have numbers.
func (x *Index[K]) Len() int { return len(x.things) }

// All goes over numbers and things, by number.
func (x *Index[K]) All() iter.Seq2[int, K] {
	things := x.things // things only come behind: what is there now stays, so no copy is needed
	return func(yield func(int, K) bool) {
		for i, k := range things {
			if !yield(i+1, k) {
				return
			}
		}
	}
}
