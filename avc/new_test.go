package avc_test

import (
	"math"
	"testing"

	"gatehouse/api"
	"gatehouse/avc"
)

// 19.1

// wantNew asks for an error, and for no cache beside it; or for a cache.
func wantNew(t *testing.T, sets, ways int, want api.Errno) {
	t.Helper()
	c, e := avc.New(sets, ways)
	if e != want || (c != nil) != (want == api.OK) {
		t.Errorf("New(%d, %d) = %v, %v, want %v", sets, ways, c, e, want)
	}
}

// outside are numbers that are neither so many sets nor so many ways.
func outside() []int {
	return []int{math.MinInt, math.MinInt + 1, api.Poison, -1 << 32, -1<<32 + 1, -256, -8, -2, -1, 0, 257, 258, 512, 1 << 16, 1 << 32, 1<<32 + 1, 1 << 62, math.MaxInt - 1, math.MaxInt}
}

func TestNewOfEachShape(t *testing.T) {
	for sets := 1; sets <= 256; sets++ {
		for ways := 1; ways <= 8; ways++ {
			wantNew(t, sets, ways, api.OK)
		}
		for ways := 9; ways <= 257; ways++ {
			wantNew(t, sets, ways, api.ErrShape)
		}
		for _, ways := range outside() {
			wantNew(t, sets, ways, api.ErrShape)
		}
	}
	for _, sets := range outside() {
		for ways := 1; ways <= 9; ways++ {
			wantNew(t, sets, ways, api.ErrShape)
		}
		for _, ways := range outside() {
			wantNew(t, sets, ways, api.ErrShape)
		}
	}
}

// A cache of each shape has just so many places, and as many in one set as in another: the triples 0 0 a go into one set behind the other.
func TestNewHasSoManyPlaces(t *testing.T) {
	for sets := 1; sets <= 256; sets++ {
		for ways := 1; ways <= 8; ways++ {
			c := made(t, sets, ways)
			for a := range sets * ways {
				c.Put(1, 0, 0, a, true)
			}
			wantStats(t, c, 0, 0, 0, sets*ways)
			for a := range sets {
				c.Put(1, 0, 0, sets*ways+a, true)
			}
			wantStats(t, c, 0, 0, sets, sets*ways)
			if t.Failed() {
				t.Fatalf("%d sets of %d places", sets, ways)
			}
		}
	}
}

// At first all places are free: no triple is there, the one of zeroes neither.
func TestNewIsEmpty(t *testing.T) {
	for _, sets := range []int{1, 2, 7, 256} {
		for _, ways := range []int{1, 2, 8} {
			c := made(t, sets, ways)
			wantStats(t, c, 0, 0, 0, 0)
			wantRatio(t, c, 0)
			wantMiss(t, c, 0, triple{})
			for _, n := range corners() {
				wantMiss(t, c, n, triple{})
				wantMiss(t, c, 0, triple{n, n, n})
				wantMiss(t, c, n, triple{n, 0, -n})
			}
			wantStats(t, c, 0, 1+3*len(corners()), 0, 0)
			wantRatio(t, c, 0)
		}
	}
}

// The hand points at the place 0 at first, in each set.
func TestHandsAtFirst(t *testing.T) {
	const sets, ways = 5, 3
	for n := range sets {
		c := made(t, sets, ways)
		for a := range sets * ways {
			c.Put(1, 0, 0, a, true)
		}
		wantThrown(t, c, 1, triple{0, 0, n + sets*ways}, true)
		for a := range sets * ways {
			if a == n {
				wantMiss(t, c, 1, triple{0, 0, a})
			} else {
				wantHit(t, c, 1, triple{0, 0, a}, true)
			}
		}
	}
}

// Two caches share nothing, whatever is done with one of them.
func TestTwoCachesShareNothing(t *testing.T) {
	for _, ways := range []int{1, 2, 8} {
		a, b := made(t, 1, ways), made(t, 1, ways)
		wantTaken(t, a, 1, triple{1, 2, 3}, true)
		wantStats(t, b, 0, 0, 0, 0)
		wantMiss(t, b, 1, triple{1, 2, 3})
		wantHit(t, a, 1, triple{1, 2, 3}, true)
		wantTaken(t, b, 1, triple{1, 2, 3}, false)
		wantHit(t, a, 1, triple{1, 2, 3}, true)
		for n := range 3 * ways {
			put(b, 1, stranger(n), false)
		}
		wantStats(t, b, 0, 1, 2*ways+1, ways)
		wantStats(t, a, 2, 0, 0, 1)
		wantRatio(t, a, 1)
		wantRatio(t, b, 0)
		wantStale(t, a, 2, triple{1, 2, 3})
		wantHit(t, b, 1, stranger(3*ways-1), false)
	}
}

// The hands of two caches are each its own: one is pushed on, the other one stays.
func TestTwoCachesHaveTwoHands(t *testing.T) {
	a, b := made(t, 1, 3), made(t, 1, 3)
	for _, x := range letters(3) {
		put(a, 1, x, true)
		put(b, 1, x, true)
	}
	wantThrown(t, a, 1, stranger(0), true)
	wantThrown(t, a, 1, stranger(1), true)
	wantThrown(t, b, 1, stranger(0), true)
	for n, x := range letters(3) {
		wantAnswer(t, a, 1, x, n == 2, n == 2)
		wantAnswer(t, b, 1, x, n > 0, n > 0)
	}
}
