package avc_test

import (
	"fmt"
	"testing"

	"gatehouse/avc"
)

// 19.6

// told is what the Puts said, whatever the cache has kept of it.
type told struct {
	tag     int
	allowed bool
}

// A hit tells what the last Put of its triple said, and that one had its tag.
func TestAHitTellsTheLastPut(t *testing.T) {
	d := dice(1961)
	hits := 0
	for row := range 200 {
		c := made(t, 1+row%5, 1+row%8)
		last := map[triple]told{}
		for range 400 {
			x, tag := triple{d.throw(3), d.throw(3), d.throw(3) - 1}, d.throw(3)
			if d.throw(3) == 0 {
				last[x] = told{tag, d.throw(2) == 0}
				put(c, tag, x, last[x].allowed)
				continue
			}
			allowed, there := get(c, tag, x)
			if said, ok := last[x]; there && (!ok || said != told{tag, allowed}) {
				t.Fatalf("row %d: Get(%d; %v) = %v, true; the last Put said %v, %v", row, tag, x, allowed, said, ok)
			}
			if !there && allowed {
				t.Fatalf("row %d: Get(%d; %v) = true, false", row, tag, x)
			}
			if there {
				hits++
			}
		}
	}
	if hits < 3000 {
		t.Errorf("%d hits: too few to tell", hits)
	}
}

// No triple stands in two places: never are more places held than triples were put into the set, and a triple that was freed is gone.
func TestNoTripleInTwoPlaces(t *testing.T) {
	d := dice(1962)
	for row := range 200 {
		ways := 1 + row%8
		c := made(t, 1, ways)
		list := letters(1 + d.throw(ways))
		seen := map[triple]int{}
		for range 200 {
			x, tag := list[d.throw(len(list))], d.throw(3)
			if d.throw(2) == 0 {
				put(c, tag, x, true)
				seen[x]++
			} else if _, there := get(c, tag, x); !there {
				for other := range 3 {
					wantMiss(t, c, other, x)
				}
			}
			if held := c.Stats().Held; held > len(seen) {
				t.Fatalf("row %d: %d places are held by %d triples", row, held, len(seen))
			}
		}
		for _, x := range list {
			put(c, 5, x, true)
		}
		if held := c.Stats().Held; held != len(list) {
			t.Fatalf("row %d: %d places are held by %d triples", row, held, len(list))
		}
	}
}

// Right behind a Put a Get of that triple and tag is a hit, whatever stood there before.
func TestRightBehindAPut(t *testing.T) {
	d := dice(1963)
	some := corners()
	for row := range 200 {
		c := made(t, 1+row%3, 1+row%8)
		for range 300 {
			x := triple{some[d.throw(len(some))], some[d.throw(3)], some[d.throw(2)]}
			tag, allowed := some[d.throw(len(some))], d.throw(2) == 0
			put(c, tag, x, allowed)
			if d.throw(3) == 0 {
				wantHit(t, c, tag, x, allowed)
			}
			if d.throw(3) == 0 {
				get(c, some[d.throw(3)], triple{some[d.throw(len(some))], some[d.throw(3)], some[d.throw(2)]})
			}
			if t.Failed() {
				t.Fatalf("row %d", row)
			}
		}
	}
}

// A decision that is marked is not the next one to be thrown out, as long as one that is not marked stands there: in a full set, with the hand at each place, each choice of hits but all.
func TestTheMarkedStay(t *testing.T) {
	for ways := 2; ways <= 8; ways++ {
		for pushed := range ways {
			list := letters(ways + pushed)
			for marks := range 1<<ways - 1 {
				c := made(t, 1, ways)
				for _, x := range list {
					put(c, 1, x, true)
				}
				for n, x := range list[pushed:] { // those that stand there
					if marks>>n&1 == 1 {
						wantHit(t, c, 1, x, true)
					}
				}
				wantThrown(t, c, 1, stranger(0), true)
				wantOneGone(t, c, list[pushed:], marks)
				if t.Failed() {
					t.Fatalf("%d ways, the hand at %d, marks %b", ways, pushed, marks)
				}
			}
		}
	}
}

// wantOneGone asks that just one of some triples is gone, and that it had no mark.
func wantOneGone(t *testing.T, c *avc.Cache, list []triple, marks int) {
	t.Helper()
	gone := 0
	for n, x := range list {
		if !stands(c, x) {
			gone++
			if marks>>n&1 == 1 {
				t.Errorf("%v was marked", x)
			}
		}
	}
	if gone != 1 {
		t.Errorf("%d are gone", gone)
	}
}

// As long as no more triples than ways were put into a set nothing is thrown out of it, with whatever tags and however they are asked for.
func TestNoMoreTriplesThanWays(t *testing.T) {
	d := dice(1966)
	for _, sets := range []int{1, 3, 256} {
		for ways := 1; ways <= 8; ways++ {
			t.Run(fmt.Sprint(sets, ways), func(t *testing.T) {
				c := made(t, sets, ways)
				for range 3000 {
					x, tag := triple{0, 0, d.throw(sets * ways)}, d.throw(3)
					put(c, tag, x, true)
					if d.throw(2) == 0 {
						get(c, d.throw(3), triple{0, 0, d.throw(sets * ways)})
					}
				}
				if n := c.Stats().Evictions; n != 0 {
					t.Errorf("%d were thrown out", n)
				}
				for a := range sets * ways {
					put(c, 9, triple{0, 0, a}, a%2 == 0)
				}
				for a := range sets * ways {
					wantHit(t, c, 9, triple{0, 0, a}, a%2 == 0)
				}
			})
		}
	}
}
