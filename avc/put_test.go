package avc_test

import (
	"math"
	"testing"

	"gatehouse/avc"
)

// 19.4

// A triple that stands there takes the new tag and allowed, in its place: the old tag counts for nothing.
func TestPutOfATripleThatStandsThere(t *testing.T) {
	for _, tag := range corners() {
		for _, other := range corners() {
			for _, allowed := range []bool{false, true} {
				for _, x := range []triple{{}, {5, 5, 5}, {math.MinInt, -1, math.MaxInt}} {
					c := made(t, 2, 2)
					wantTaken(t, c, tag, x, !allowed)
					wantChanged(t, c, other, x, allowed)
					wantHit(t, c, other, x, allowed)
					wantChanged(t, c, tag, x, !allowed)
					wantHit(t, c, tag, x, !allowed)
					if tag != other {
						wantStale(t, c, other, x)
						wantMiss(t, c, tag, x)
					}
				}
			}
		}
	}
}

// Its mark stays as it is: an unmarked one goes out when its turn comes, a marked one is passed once; whether the tag is the same or another.
func TestPutLeavesTheMark(t *testing.T) {
	list := letters(3)
	for _, tag := range []int{1, 2} {
		for _, allowed := range []bool{false, true} {
			again := func(marked bool) func(*avc.Cache) {
				return func(c *avc.Cache) {
					for _, x := range list {
						wantTaken(t, c, 1, x, true)
					}
					if marked {
						wantHit(t, c, 1, list[0], true)
					}
					wantChanged(t, c, tag, list[0], allowed)
					wantChanged(t, c, tag, list[0], allowed)
				}
			}
			wantOut(t, 3, again(false), list, 1, 2, 3)
			wantOut(t, 3, again(true), list, 3, 1, 2)
		}
	}
}

// It takes no other place, also where a free one has a smaller number.
func TestPutStaysInItsPlace(t *testing.T) {
	list := letters(4)
	wantOut(t, 3, func(c *avc.Cache) {
		for _, x := range list[:3] {
			wantTaken(t, c, 1, x, true)
		}
		wantStale(t, c, 2, list[0])
		wantChanged(t, c, 2, list[2], false)
		wantTaken(t, c, 2, list[3], false)
	}, list, 0, 2, 3, 1)
}

// The free place with the smallest number is taken: whichever places are free, and however they became so.
func TestPutIntoTheSmallestFreePlace(t *testing.T) {
	const ways = 4
	list := letters(2 * ways)
	for holes := range 1 << ways {
		for _, down := range []bool{false, true} {
			var want []int // of each place: who has it in the end
			next := ways
			for place := range ways {
				if holes>>place&1 == 1 {
					want = append(want, next)
					next++
				} else {
					want = append(want, place)
				}
			}
			out := make([]int, 2*ways)
			for place, who := range want {
				out[who] = place + 1 // the hand points at the place 0, and nobody is marked
			}
			wantOut(t, ways, func(c *avc.Cache) {
				for _, x := range list[:ways] {
					wantTaken(t, c, 1, x, true)
				}
				for n := range ways {
					place := n
					if down {
						place = ways - 1 - n
					}
					if holes>>place&1 == 1 {
						wantStale(t, c, 2, list[place])
					}
				}
				for _, x := range list[ways:next] {
					wantTaken(t, c, 1, x, true)
				}
			}, list, out...)
		}
	}
}

// As long as a place is free the hand is not asked: it moves no mark and points where it pointed.
func TestPutIntoAFreePlaceLeavesTheHand(t *testing.T) {
	list := letters(6)
	wantOut(t, 3, func(c *avc.Cache) {
		for _, x := range list[:3] {
			wantTaken(t, c, 1, x, true)
		}
		wantThrown(t, c, 1, list[3], true) // the hand points at the place 1
		wantHit(t, c, 1, list[1], true)
		wantStale(t, c, 2, list[3])
		wantTaken(t, c, 2, list[4], true)
	}, []triple{list[4], list[1], list[2]}, 2, 3, 1)
}

// A new decision is not marked, in whichever way its place was found.
func TestPutIsUnmarked(t *testing.T) {
	list := letters(4)
	wantOut(t, 2, func(c *avc.Cache) {
		wantTaken(t, c, 1, list[0], true)
		wantTaken(t, c, 1, list[1], true)
		wantHit(t, c, 1, list[0], true)
		wantHit(t, c, 1, list[1], true)
		wantThrown(t, c, 1, list[2], true) // all marks are gone, the place 0 is thrown out
	}, list[:3], 0, 1, 2)
	wantOut(t, 2, func(c *avc.Cache) {
		wantTaken(t, c, 1, list[0], true)
		wantTaken(t, c, 1, list[1], true)
		wantThrown(t, c, 1, list[2], true)
		wantHit(t, c, 1, list[2], true)
		wantThrown(t, c, 1, list[3], true) // the place 1; the place 0 has a mark
	}, []triple{list[2], list[3]}, 2, 1)
}

// Of one place: each new triple throws the old one out, marked or not.
func TestPutIntoASetOfOnePlace(t *testing.T) {
	c := made(t, 1, 1)
	list := letters(20)
	wantTaken(t, c, 1, list[0], false)
	for n := 1; n < len(list); n++ {
		if n%2 == 0 {
			wantHit(t, c, 1, list[n-1], (n-1)%3 == 1)
		}
		wantThrown(t, c, 1, list[n], n%3 == 1)
		wantMiss(t, c, 1, list[n-1])
	}
	wantHit(t, c, 1, list[19], true)
	wantChanged(t, c, 2, list[19], false)
	wantHit(t, c, 2, list[19], false)
}

// Where all are marked the hand goes all the way round, takes the marks away, and throws out the place that it pointed at.
func TestPutWhereAllAreMarked(t *testing.T) {
	for ways := 1; ways <= 8; ways++ {
		for pushed := range ways { // where the hand points
			list := letters(ways + pushed)
			fill := func(c *avc.Cache) {
				for n, x := range list {
					if n < ways {
						wantTaken(t, c, 1, x, true)
					} else {
						wantThrown(t, c, 1, x, true)
					}
				}
				for _, x := range list[pushed:] {
					wantHit(t, c, 1, x, true)
				}
			}
			// By place from the hand on: those of the filling from the place pushed on, then those who came behind.
			var out []int
			for n := range ways {
				out = append(out, n+1)
			}
			wantOut(t, ways, fill, list[pushed:], out...)
		}
	}
}

// The marked places that the hand passes lose their marks, the others keep theirs.
func TestTheHandTakesMarksAway(t *testing.T) {
	list := letters(4)
	fill := func(c *avc.Cache, marked ...int) {
		for _, x := range list {
			wantTaken(t, c, 1, x, true)
		}
		for _, n := range marked {
			wantHit(t, c, 1, list[n], true)
		}
	}
	// 0 and 1 are passed, 2 goes; 3 is passed, then 0 goes, 1, the place 2, and 3.
	wantOut(t, 4, func(c *avc.Cache) { fill(c, 0, 1, 3) }, list, 2, 3, 1, 5)
	// 0 goes at once; 1 is passed, 2 goes; 3; the place 0; 1.
	wantOut(t, 4, func(c *avc.Cache) { fill(c, 1) }, list, 1, 5, 2, 3)
	// 0, 1, 2 are passed, 3 goes, and the hand comes to 0.
	wantOut(t, 4, func(c *avc.Cache) { fill(c, 0, 1, 2) }, list, 2, 3, 4, 1)
	// A mark that was taken away and is made again counts again: 2 goes, 3, the place 1 (0 is passed), the places 2 and 3, and 0.
	wantOut(t, 4, func(c *avc.Cache) {
		fill(c, 0)
		wantThrown(t, c, 1, stranger(99), true) // 0 is passed, 1 goes
		wantHit(t, c, 1, list[0], true)
	}, list, 6, 0, 1, 2)
}

// Behind the last place comes the first one, again and again.
func TestTheHandPastTheLastPlace(t *testing.T) {
	for ways := 1; ways <= 8; ways++ {
		c := made(t, 1, ways)
		list := letters(5*ways + 3)
		for n, x := range list {
			if n < ways {
				wantTaken(t, c, 1, x, true)
			} else {
				wantThrown(t, c, 1, x, true)
			}
		}
		for n, x := range list {
			if n < len(list)-ways {
				wantMiss(t, c, 1, x)
			} else {
				wantHit(t, c, 1, x, true)
			}
		}
	}
}

// A marked last place: the hand passes it, and comes to 0.
func TestTheHandPassesTheLastPlace(t *testing.T) {
	list := letters(4)
	wantOut(t, 3, func(c *avc.Cache) {
		for _, x := range list[:3] {
			wantTaken(t, c, 1, x, true)
		}
		wantHit(t, c, 1, list[0], true)
		wantThrown(t, c, 1, list[3], true) // 0 is passed, 1 goes: the hand points at 2
		wantHit(t, c, 1, list[2], true)
	}, list, 1, 0, 3, 2)
}

// A place may become free where the hand points: it goes on from there all the same.
func TestAFreedPlaceUnderTheHand(t *testing.T) {
	list := letters(5)
	wantOut(t, 3, func(c *avc.Cache) {
		for _, x := range list[:3] {
			wantTaken(t, c, 1, x, true)
		}
		wantThrown(t, c, 1, list[3], true) // the hand points at 1
		wantStale(t, c, 7, list[1])
		wantTaken(t, c, 1, list[4], true)
	}, list, 0, 0, 2, 3, 1)
}

// Each set has its own hand and its own places.
func TestPutIntoOneSet(t *testing.T) {
	const sets, ways = 4, 2
	of := func(set, n int) triple { return triple{0, 0, set + sets*n} }
	for pushed := range sets {
		c := made(t, sets, ways)
		for n := range ways {
			for set := range sets {
				wantTaken(t, c, 1, of(set, n), true)
			}
		}
		for n := ways; n < 3*ways+1; n++ {
			wantThrown(t, c, 1, of(pushed, n), true)
		}
		for set := range sets {
			if set != pushed {
				wantThrown(t, c, 1, of(set, ways), true) // its hand points at 0 still
				wantMiss(t, c, 1, of(set, 0))
				wantHit(t, c, 1, of(set, 1), true)
				wantHit(t, c, 1, of(set, ways), true)
			}
		}
		wantHit(t, c, 1, of(pushed, 3*ways), true)
		wantHit(t, c, 1, of(pushed, 3*ways-1), true)
	}
}

// Decisions of one set may bear many tags.
func TestPutOfManyTags(t *testing.T) {
	c := made(t, 1, 8)
	for n, x := range letters(8) {
		wantTaken(t, c, n-4, x, n%2 == 0)
	}
	for n, x := range letters(8) {
		wantHit(t, c, n-4, x, n%2 == 0)
	}
}
