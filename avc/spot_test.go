package avc_test

import (
	"math"
	"math/big"
	"testing"

	"gatehouse/avc"
)

// 19.2

func wantSpot(t *testing.T, c *avc.Cache, x triple, want int) {
	t.Helper()
	if got := spot(c, x); got != want {
		t.Errorf("Spot%v = %d, want %d", x, got, want)
	}
}

// wrapped is h of a triple by numbers that do not wrap, brought among those of 64 bits at the end.
func wrapped(x triple) *big.Int {
	h := new(big.Int)
	for _, n := range x {
		h.Mul(h, big.NewInt(31))
		h.Add(h, big.NewInt(int64(n)))
	}
	whole, half := new(big.Int).Lsh(big.NewInt(1), 64), new(big.Int).Lsh(big.NewInt(1), 63)
	h.Add(h, half)
	h.Mod(h, whole) // never below 0
	return h.Sub(h, half)
}

// spotted is a second reckoning of Spot.
func spotted(x triple, sets int) int {
	return int(new(big.Int).Mod(wrapped(x), big.NewInt(int64(sets))).Int64())
}

// spotTriples are triples of all corners.
func spotTriples() []triple {
	var list []triple
	for _, s := range corners() {
		for _, o := range corners() {
			for _, a := range corners() {
				list = append(list, triple{s, o, a})
			}
		}
	}
	return list
}

func TestSpotOfCorners(t *testing.T) {
	for _, sets := range []int{1, 2, 3, 7, 31, 32, 255, 256} {
		c := made(t, sets, 1)
		for _, x := range spotTriples() {
			wantSpot(t, c, x, spotted(x, sets))
		}
		wantStats(t, c, 0, 0, 0, 0)
	}
}

func TestSpotOfEachNumberOfSets(t *testing.T) {
	d := dice(192)
	list := []triple{{}, {1, 2, 3}, {0, 0, -1}, {-1, -1, -1}, {math.MaxInt, math.MaxInt, math.MaxInt}, {math.MinInt, math.MinInt, math.MinInt}, {0, 0, math.MinInt}, {0, 0, math.MaxInt}, {math.MaxInt / 961, 0, 961}, {1 << 60, 5, -7}}
	for range 200 {
		var x triple
		for i := range x {
			x[i] = (d.throw(1<<31)<<33 ^ d.throw(1<<31)<<10 ^ d.throw(1<<31)) >> d.throw(64)
			if d.throw(2) == 0 {
				x[i] = -x[i]
			}
		}
		list = append(list, x)
	}
	below, wraps := 0, 0
	for sets := 1; sets <= 256; sets++ {
		c := made(t, sets, 1)
		for _, x := range list {
			wantSpot(t, c, x, spotted(x, sets))
			if wrapped(x).Sign() < 0 {
				below++
			}
			if sum := float64(x[0])*961 + float64(x[1])*31 + float64(x[2]); math.Abs(sum) > 1<<64 {
				wraps++
			}
		}
	}
	if below < 1000 || wraps < 1000 {
		t.Errorf("h was below 0 %d times, wrapped %d times: too few to tell", below, wraps)
	}
}

// By hand: where h is just a multiple of sets, one less, one more, on both sides of 0.
func TestSpotBesideMultiples(t *testing.T) {
	for sets := 2; sets <= 256; sets++ {
		c := made(t, sets, 1)
		for k := -3; k <= 3; k++ {
			wantSpot(t, c, triple{0, 0, k * sets}, 0)
			wantSpot(t, c, triple{0, 0, k*sets + 1}, 1)
			wantSpot(t, c, triple{0, 0, k*sets - 1}, sets-1)
			wantSpot(t, c, triple{0, k * sets, 0}, 0)
			wantSpot(t, c, triple{k * sets, 0, -1}, sets-1)
		}
	}
}

// By hand, where h wraps round: 2^63 is 8 more than a multiple of 10.
func TestSpotWrapsRound(t *testing.T) {
	c := made(t, 10, 1)
	wantSpot(t, c, triple{0, 0, math.MaxInt}, 7)
	wantSpot(t, c, triple{0, 0, math.MinInt}, 2)
	wantSpot(t, c, triple{math.MinInt, 0, 0}, 2)           // 961 is odd: the least int again
	wantSpot(t, c, triple{0, math.MinInt, math.MinInt}, 0) // 32 of the least int: 0
	wantSpot(t, c, triple{1 << 62, 0, 0}, 4)               // 961 is 1 more than a multiple of 4: 2^62
	wantSpot(t, c, triple{0, 1 << 62, 1 << 62}, 0)
	wantSpot(t, c, triple{0, 1, math.MaxInt}, 2) // the least int and 30
	d := made(t, 256, 1)
	wantSpot(t, d, triple{math.MaxInt, math.MaxInt, math.MaxInt}, 31) // 993 times -1, and four times 256
	wantSpot(t, d, triple{math.MinInt, math.MinInt, math.MinInt}, 0)
}

func TestSpotOfOneSet(t *testing.T) {
	for _, ways := range []int{1, 8} {
		c := made(t, 1, ways)
		for _, x := range spotTriples() {
			wantSpot(t, c, x, 0)
		}
	}
}

// The places of a set do not count, nor what was put there.
func TestSpotStays(t *testing.T) {
	d := dice(1922)
	for ways := 1; ways <= 8; ways++ {
		c := made(t, 13, ways)
		for range 300 {
			x := triple{d.throw(99) - 50, d.throw(99) - 50, d.throw(99) - 50}
			wantSpot(t, c, x, spotted(x, 13))
			put(c, d.throw(3), x, true)
			wantSpot(t, c, x, spotted(x, 13))
			get(c, d.throw(3), x)
		}
	}
}

// Spot tells the set: with one place each, a triple throws another one out just where they have the same.
func TestSpotIsTheSet(t *testing.T) {
	var list []triple
	for i, x := range spotTriples() {
		if i%37 == 0 {
			list = append(list, x)
		}
	}
	same := 0
	for _, sets := range []int{1, 2, 7, 256} {
		for _, x := range list {
			for _, y := range list {
				if x == y {
					continue
				}
				c := made(t, sets, 1)
				put(c, 1, x, true)
				if spotted(x, sets) == spotted(y, sets) {
					same++
					wantThrown(t, c, 1, y, false)
					wantMiss(t, c, 1, x)
				} else {
					wantTaken(t, c, 1, y, false)
					wantHit(t, c, 1, x, true)
				}
				wantHit(t, c, 1, y, false)
			}
		}
	}
	if same < 100 {
		t.Errorf("%d pairs of one set: too few to tell", same)
	}
}
