package avc_test

import (
	"math"
	"testing"

	"gatehouse/avc"
)

// 19.3

// A hit at each tag, allowed and not, again and again.
func TestGetOfEachTag(t *testing.T) {
	for _, tag := range corners() {
		for _, allowed := range []bool{false, true} {
			for _, x := range []triple{{}, {1, 2, 3}, {math.MinInt, 0, math.MaxInt}, {tag, tag, tag}} {
				c := made(t, 3, 2)
				wantMiss(t, c, tag, x)
				wantTaken(t, c, tag, x, allowed)
				for range 3 {
					wantHit(t, c, tag, x, allowed)
				}
				wantStats(t, c, 3, 1, 0, 1)
			}
		}
	}
}

// With another tag: a miss, and the place is free: behind that the tag that was right misses too.
func TestGetOfAnotherTag(t *testing.T) {
	for _, tag := range corners() {
		for _, other := range corners() {
			if tag == other {
				continue
			}
			for _, x := range []triple{{}, {5, 5, 5}, {-1, 0, math.MinInt}} {
				c := made(t, 2, 2)
				wantTaken(t, c, tag, x, true)
				wantStale(t, c, other, x)
				wantMiss(t, c, tag, x)
				wantMiss(t, c, other, x)
				wantStats(t, c, 0, 3, 0, 0)
				wantTaken(t, c, other, x, false)
				wantHit(t, c, other, x, false)
			}
		}
	}
}

// Another triple of the same set is another one in each of its three parts; asked for, it frees nothing.
func TestGetOfAnotherTriple(t *testing.T) {
	for _, x := range []triple{{}, {5, 6, 7}, {math.MaxInt, math.MinInt, -1}} {
		for part := range 3 {
			for _, more := range []int{1, -1, 256, 1 << 32, math.MinInt} {
				for tag := range 2 {
					c := made(t, 1, 4)
					wantTaken(t, c, 0, x, true)
					y := x
					y[part] += more
					wantMiss(t, c, tag, y)
					wantHit(t, c, 0, x, true)
					wantTaken(t, c, 0, y, false)
					wantHit(t, c, 0, x, true)
					wantHit(t, c, 0, y, false)
				}
			}
		}
	}
}

// The three parts are not to be had in another order.
func TestGetKeepsTheOrder(t *testing.T) {
	c := made(t, 1, 8)
	orders := []triple{{1, 2, 3}, {1, 3, 2}, {2, 1, 3}, {2, 3, 1}, {3, 1, 2}, {3, 2, 1}}
	for n, x := range orders {
		wantMiss(t, c, 9, x)
		wantTaken(t, c, 9, x, n%2 == 0)
	}
	for n, x := range orders {
		wantHit(t, c, 9, x, n%2 == 0)
	}
	d := made(t, 1, 2)
	wantTaken(t, d, 1, triple{2, 3, 4}, true) // the tag is none of the three
	wantMiss(t, d, 2, triple{1, 3, 4})
	wantMiss(t, d, 4, triple{1, 2, 3})
	wantHit(t, d, 1, triple{2, 3, 4}, true)
}

// Only the place of the triple itself is freed, wherever it stands.
func TestGetFreesThatPlaceAlone(t *testing.T) {
	for ways := 1; ways <= 8; ways++ {
		list := letters(ways)
		for freed := range ways {
			c := made(t, 1, ways)
			for n, x := range list {
				wantTaken(t, c, n, x, n%2 == 1)
			}
			wantStale(t, c, -1, list[freed])
			for n, x := range list {
				if n == freed {
					wantMiss(t, c, n, x)
				} else {
					wantHit(t, c, n, x, n%2 == 1)
				}
			}
			wantStats(t, c, ways-1, 2, 0, ways-1)
		}
	}
}

// The place that a Get leaves free is the next one taken, and the hand stays where it is: the others go out in their order, and the newcomer in that of its place.
func TestTheFreedPlaceIsTaken(t *testing.T) {
	list := letters(5)
	a, b, d, e, fresh := list[0], list[1], list[2], list[3], list[4]
	for freed, want := range [][]int{{0, 2, 3, 4, 1}, {1, 0, 3, 4, 2}, {1, 2, 0, 4, 3}, {1, 2, 3, 0, 4}} {
		wantOut(t, 4, func(c *avc.Cache) {
			for _, x := range []triple{a, b, d, e} {
				put(c, 1, x, true)
			}
			wantStale(t, c, 2, list[freed])
			wantTaken(t, c, 2, fresh, true)
		}, []triple{a, b, d, e, fresh}, want...)
	}
}

// A hit marks: the hand passes it once. A miss marks nothing.
func TestAHitMarks(t *testing.T) {
	list := letters(3)
	fill := func(c *avc.Cache) {
		for _, x := range list {
			put(c, 1, x, true)
		}
	}
	wantOut(t, 3, fill, list, 1, 2, 3)
	wantOut(t, 3, func(c *avc.Cache) { fill(c); wantHit(t, c, 1, list[0], true) }, list, 3, 1, 2)
	wantOut(t, 3, func(c *avc.Cache) { fill(c); wantHit(t, c, 1, list[1], true) }, list, 1, 4, 2)
	wantOut(t, 3, func(c *avc.Cache) { fill(c); wantHit(t, c, 1, list[2], true) }, list, 1, 2, 5)
	wantOut(t, 3, func(c *avc.Cache) {
		fill(c)
		wantHit(t, c, 1, list[0], true)
		wantHit(t, c, 1, list[0], true) // marked is marked
	}, list, 3, 1, 2)
	wantOut(t, 3, func(c *avc.Cache) {
		fill(c)
		wantHit(t, c, 1, list[2], true)
		wantHit(t, c, 1, list[0], true)
	}, list, 2, 1, 4)
	wantOut(t, 3, func(c *avc.Cache) { fill(c); wantMiss(t, c, 1, triple{9, 9, 9}) }, list, 1, 2, 3)
}

// A hit on a decision that is not allowed marks as well.
func TestAHitOfNoMarks(t *testing.T) {
	list := letters(2)
	wantOut(t, 2, func(c *avc.Cache) {
		put(c, 1, list[0], false)
		put(c, 1, list[1], false)
		wantHit(t, c, 1, list[0], false)
	}, list, 2, 1)
}

// A place that was marked and is freed bears no mark for whom comes next.
func TestAFreedPlaceIsUnmarked(t *testing.T) {
	list := letters(3)
	wantOut(t, 2, func(c *avc.Cache) {
		wantTaken(t, c, 1, list[0], true)
		wantTaken(t, c, 1, list[1], true)
		wantHit(t, c, 1, list[0], true)
		wantStale(t, c, 2, list[0])
		wantTaken(t, c, 2, list[2], true)
	}, list, 0, 2, 1)
	wantOut(t, 2, func(c *avc.Cache) {
		wantTaken(t, c, 1, list[0], true)
		wantTaken(t, c, 1, list[1], true)
		wantHit(t, c, 1, list[0], true)
		wantStale(t, c, 2, list[0])
		wantTaken(t, c, 1, list[0], true) // the same triple once more: a new decision
	}, list[:2], 1, 2)
}

// Get looks into the triple's set alone.
func TestGetOfOneSet(t *testing.T) {
	for _, sets := range []int{2, 7, 256} {
		c := made(t, sets, 1)
		for a := range sets {
			wantTaken(t, c, a, triple{0, 0, a}, a%3 == 0)
		}
		for a := range sets {
			wantMiss(t, c, a, triple{0, 0, a + sets})
			wantHit(t, c, a, triple{0, 0, a}, a%3 == 0)
		}
		for a := range sets {
			wantStale(t, c, -1, triple{0, 0, a})
			wantMiss(t, c, a, triple{0, 0, a})
		}
		wantStats(t, c, sets, 3*sets, 0, 0)
	}
}

// The decision of zeroes is one like any other: the triple 0 0 0 with the tag 0, not allowed.
func TestTheDecisionOfZeroes(t *testing.T) {
	zero := triple{}
	for _, sets := range []int{1, 7, 256} {
		for ways := 1; ways <= 8; ways++ {
			for place := range ways { // as the first of its set, and amid others
				c := made(t, sets, ways)
				for n := range ways {
					if n == place {
						wantMiss(t, c, 0, zero)
						wantTaken(t, c, 0, zero, false)
					} else {
						wantTaken(t, c, 0, triple{0, 0, sets * (n + 1)}, true)
					}
				}
				wantHit(t, c, 0, zero, false)
				wantChanged(t, c, 0, zero, false)
				wantHit(t, c, 0, zero, false)
				wantStats(t, c, 2, 1, 0, ways)
				wantThrown(t, c, 0, triple{0, 0, -sets}, true) // no place is free
			}
		}
	}
}

func TestTheDecisionOfZeroesIsThrownOut(t *testing.T) {
	list := append([]triple{{}}, letters(2)...)
	wantOut(t, 3, func(c *avc.Cache) {
		for _, x := range list {
			wantTaken(t, c, 0, x, false)
		}
	}, list, 1, 2, 3)
	c := made(t, 1, 1)
	wantTaken(t, c, 0, triple{}, false)
	wantThrown(t, c, 0, triple{1, 0, 0}, false)
	wantMiss(t, c, 0, triple{})
	wantThrown(t, c, 0, triple{}, false)
	wantHit(t, c, 0, triple{}, false)
	wantStale(t, c, 1, triple{})
	wantMiss(t, c, 0, triple{})
	wantStats(t, c, 1, 3, 2, 0)
}
