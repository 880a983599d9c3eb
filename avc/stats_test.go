package avc_test

import (
	"math/big"
	"testing"
)

// 19.5

func TestStatsAndRatioAtEachMoment(t *testing.T) {
	c := made(t, 1, 1)
	moment := func(hits, misses, evictions, held int, ratio float64) {
		t.Helper()
		for range 2 {
			wantStats(t, c, hits, misses, evictions, held)
			wantRatio(t, c, ratio)
		}
	}
	moment(0, 0, 0, 0, 0)
	c.Put(1, 5, 5, 5, true)
	moment(0, 0, 0, 1, 0) // ahead of the first Get
	c.Get(1, 5, 5, 5)
	moment(1, 0, 0, 1, 1)
	c.Get(1, 6, 5, 5)
	moment(1, 1, 0, 1, 0.5)
	c.Get(1, 6, 5, 5)
	moment(1, 2, 0, 1, 1.0/3)
	c.Put(1, 6, 5, 5, false)
	moment(1, 2, 1, 1, 1.0/3)
	c.Put(2, 6, 5, 5, false)
	moment(1, 2, 1, 1, 1.0/3)
	c.Get(2, 6, 5, 5)
	moment(2, 2, 1, 1, 0.5)
	c.Get(1, 6, 5, 5)
	moment(2, 3, 1, 0, 0.4)
	c.Get(2, 6, 5, 5)
	moment(2, 4, 1, 0, 1.0/3)
}

func TestRatioOfMissesAlone(t *testing.T) {
	c := made(t, 3, 3)
	for n := range 100 {
		wantRatio(t, c, 0)
		wantMiss(t, c, n, triple{n, n, n})
	}
	wantRatio(t, c, 0)
}

func TestRatioOfHitsAlone(t *testing.T) {
	c := made(t, 3, 3)
	wantTaken(t, c, 1, triple{}, false)
	wantRatio(t, c, 0)
	for range 100 {
		wantHit(t, c, 1, triple{}, false)
		wantRatio(t, c, 1)
	}
}

// The float that is nearest to the fraction, whatever the counts are.
func TestRatioIsTheNearestFloat(t *testing.T) {
	d := dice(195)
	for row := range 40 {
		c := made(t, 2, 2)
		wantTaken(t, c, 1, triple{}, true)
		hits, asked := 0, 0
		for range 300 {
			asked++
			if d.throw(41) < row {
				hits++
				wantHit(t, c, 1, triple{}, true)
			} else {
				wantMiss(t, c, 1, triple{1, 0, 0})
			}
			want, _ := big.NewRat(int64(hits), int64(asked)).Float64()
			wantRatio(t, c, want)
		}
		if row == 20 && (hits == 0 || hits == asked) {
			t.Errorf("%d hits of %d: too few to tell", hits, asked)
		}
	}
}

// Held goes over all sets.
func TestHeldOfAllSets(t *testing.T) {
	for _, sets := range []int{1, 2, 7, 255, 256} {
		c := made(t, sets, 3)
		held := 0
		for a := range 3 * sets {
			wantStats(t, c, 0, 0, 0, held)
			c.Put(a, 0, 0, a, a%2 == 0)
			held++
		}
		for a := range 3 * sets {
			wantStats(t, c, 0, a, 0, held)
			c.Get(-1, 0, 0, a)
			held--
		}
		wantStats(t, c, 0, 3*sets, 0, 0)
	}
}

// Of two caches that are told the same, one is asked for Spot, Stats and Ratio between all calls: nothing tells them apart.
func TestAskingChangesNothing(t *testing.T) {
	d := dice(1905)
	for row := range 60 {
		sets, ways := 1+row%4, 1+row%8
		quiet, asked := made(t, sets, ways), made(t, sets, ways)
		for range 400 {
			tag, x, allowed := d.throw(3), triple{d.throw(3), d.throw(3), d.throw(3)}, d.throw(2) == 0
			for range d.throw(4) {
				if spot(asked, x) != spot(quiet, x) {
					t.Errorf("Spot%v differs", x)
				}
				y := triple{d.throw(5) - 2, d.throw(5) - 2, d.throw(5) - 2}
				spot(asked, y)
				asked.Stats()
				asked.Ratio()
			}
			if d.throw(2) == 0 {
				put(quiet, tag, x, allowed)
				put(asked, tag, x, allowed)
				continue
			}
			a, there := get(quiet, tag, x)
			wantAnswer(t, asked, tag, x, a, there)
		}
		if quiet.Stats() != asked.Stats() || quiet.Ratio() != asked.Ratio() {
			t.Errorf("row %d: %+v, %v, and where it was asked %+v, %v", row, quiet.Stats(), quiet.Ratio(), asked.Stats(), asked.Ratio())
		}
	}
}

// What Stats gave stays as it was.
func TestStatsAreTheHoldersOwn(t *testing.T) {
	c := made(t, 1, 1)
	held := c.Stats()
	wantTaken(t, c, 1, triple{}, true)
	wantHit(t, c, 1, triple{}, true)
	if held.Hits != 0 || held.Held != 0 {
		t.Errorf("what was held became %+v", held)
	}
	held.Hits, held.Misses, held.Evictions, held.Held = 7, 7, 7, 7
	wantStats(t, c, 1, 0, 0, 1)
	wantRatio(t, c, 1)
}
