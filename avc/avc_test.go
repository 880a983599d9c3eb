package avc_test

import (
	"math"
	"slices"
	"testing"

	"gatehouse/api"
	"gatehouse/avc"
)

// triple is a subject, an object and an action.
type triple = [3]int

// made is an empty cache.
func made(t *testing.T, sets, ways int) *avc.Cache {
	t.Helper()
	c, e := avc.New(sets, ways)
	if e != api.OK || c == nil {
		t.Fatalf("New(%d, %d) = %v, %v", sets, ways, c, e)
	}
	return c
}

func get(c *avc.Cache, tag int, x triple) (bool, bool) { return c.Get(tag, x[0], x[1], x[2]) }

func put(c *avc.Cache, tag int, x triple, allowed bool) { c.Put(tag, x[0], x[1], x[2], allowed) }

func spot(c *avc.Cache, x triple) int { return c.Spot(x[0], x[1], x[2]) }

func wantStats(t *testing.T, c *avc.Cache, hits, misses, evictions, held int) {
	t.Helper()
	want := api.Stats{Hits: hits, Misses: misses, Evictions: evictions, Held: held}
	if got := c.Stats(); got != want {
		t.Errorf("Stats() = %+v, want %+v", got, want)
	}
}

func wantRatio(t *testing.T, c *avc.Cache, want float64) {
	t.Helper()
	if got := c.Ratio(); got != want || math.Signbit(got) {
		t.Errorf("Ratio() = %v, want %v", got, want)
	}
}

// wantMore asks that a call adds this to the counts, and nothing else.
func wantMore(t *testing.T, c *avc.Cache, call func(), hits, misses, evictions, held int) {
	t.Helper()
	was := c.Stats()
	call()
	wantStats(t, c, was.Hits+hits, was.Misses+misses, was.Evictions+evictions, was.Held+held)
}

func wantAnswer(t *testing.T, c *avc.Cache, tag int, x triple, allowed, there bool) {
	t.Helper()
	if a, ok := get(c, tag, x); a != allowed || ok != there {
		t.Errorf("Get(%d; %v) = %v, %v, want %v, %v", tag, x, a, ok, allowed, there)
	}
}

// wantHit asks for a decision that is there.
func wantHit(t *testing.T, c *avc.Cache, tag int, x triple, allowed bool) {
	t.Helper()
	wantMore(t, c, func() { t.Helper(); wantAnswer(t, c, tag, x, allowed, true) }, 1, 0, 0, 0)
}

// wantMiss asks for a triple that stands nowhere.
func wantMiss(t *testing.T, c *avc.Cache, tag int, x triple) {
	t.Helper()
	wantMore(t, c, func() { t.Helper(); wantAnswer(t, c, tag, x, false, false) }, 0, 1, 0, 0)
}

// wantStale asks for a triple that stands there with another tag: its place is free behind that.
func wantStale(t *testing.T, c *avc.Cache, tag int, x triple) {
	t.Helper()
	wantMore(t, c, func() { t.Helper(); wantAnswer(t, c, tag, x, false, false) }, 0, 1, 0, -1)
}

// wantTaken puts a decision into a free place.
func wantTaken(t *testing.T, c *avc.Cache, tag int, x triple, allowed bool) {
	t.Helper()
	wantMore(t, c, func() { put(c, tag, x, allowed) }, 0, 0, 0, 1)
}

// wantChanged puts a decision whose triple stands there already.
func wantChanged(t *testing.T, c *avc.Cache, tag int, x triple, allowed bool) {
	t.Helper()
	wantMore(t, c, func() { put(c, tag, x, allowed) }, 0, 0, 0, 0)
}

// wantThrown puts a decision where another one is thrown out.
func wantThrown(t *testing.T, c *avc.Cache, tag int, x triple, allowed bool) {
	t.Helper()
	wantMore(t, c, func() { put(c, tag, x, allowed) }, 0, 0, 1, 0)
}

// stands says whether a triple stands in a cache, with whatever tag; the cache is no more what it was.
func stands(c *avc.Cache, x triple) bool {
	was := c.Stats()
	get(c, 0, x)
	now := c.Stats()
	return now.Hits > was.Hits || now.Held < was.Held
}

// stranger is a decision's triple that no test puts by hand.
func stranger(i int) triple { return triple{1000 + i, -5, 77} }

// wantOut asks how long each of some triples stays in a cache of one set behind some calls: by which of the strangers that come then, counted from 1 on, it is thrown out; 0, if it is not there at all. Who looks marks, so the cache is made anew for each look.
func wantOut(t *testing.T, ways int, calls func(*avc.Cache), triples []triple, want ...int) {
	t.Helper()
	got := make([]int, len(triples))
	for i, x := range triples {
		for n := 0; ; n++ {
			c := made(t, 1, ways)
			calls(c)
			for k := range n {
				put(c, 1, stranger(k), true)
			}
			if !stands(c, x) {
				got[i] = n
				break
			}
			if n > 3*ways {
				got[i] = -1 // marked at most once, it can't be passed more often than once
				break
			}
		}
	}
	if !slices.Equal(got, want) {
		t.Errorf("%v are thrown out by the strangers %v, want %v", triples, got, want)
	}
}

// letters are some triples.
func letters(n int) []triple {
	list := make([]triple, n)
	for i := range list {
		list[i] = triple{i + 1, 5, 5}
	}
	return list
}

// dice throws numbers, always the same ones.
type dice uint64

func (d *dice) throw(n int) int {
	*d = *d*6364136223846793005 + 1442695040888963407
	return int(uint64(*d>>33) % uint64(n))
}

// corners are numbers that may be handed in.
func corners() []int {
	return []int{0, 1, -1, 2, -2, 30, 31, -31, 256, 1 << 32, -1 << 32, 1 << 62, api.Poison, math.MaxInt, math.MaxInt - 1, math.MinInt, math.MinInt + 1}
}

// each goes over all lists of n numbers below a bound.
func each(n, bound int, look func([]int)) {
	list := make([]int, n)
	for {
		look(list)
		place := n - 1
		for place >= 0 && list[place] == bound-1 {
			list[place] = 0
			place--
		}
		if place < 0 {
			return
		}
		list[place]++
	}
}

// The chapter's examples, in their order.
func TestExamples(t *testing.T) {
	for _, shape := range [][2]int{{0, 1}, {257, 1}, {1, 0}, {1, 9}} {
		wantNew(t, shape[0], shape[1], api.ErrShape)
	}
	seven := made(t, 7, 1)
	wantSpot(t, seven, triple{1, 2, 3}, 4)
	wantSpot(t, seven, triple{0, 0, -1}, 6)
	wantSpot(t, seven, triple{0, 0, 0}, 0)

	c := made(t, 1, 2)
	wantAnswer(t, c, 1, triple{5, 5, 5}, false, false)
	wantStats(t, c, 0, 1, 0, 0)
	put(c, 1, triple{5, 5, 5}, true)
	wantAnswer(t, c, 1, triple{5, 5, 5}, true, true)
	wantStats(t, c, 1, 1, 0, 1)
	put(c, 1, triple{6, 5, 5}, false)
	wantAnswer(t, c, 2, triple{6, 5, 5}, false, false)
	wantStats(t, c, 1, 2, 0, 1)
	put(c, 2, triple{6, 5, 5}, true)
	put(c, 2, triple{7, 5, 5}, false)
	wantStats(t, c, 1, 2, 1, 2)
	wantAnswer(t, c, 1, triple{5, 5, 5}, true, true)
	wantAnswer(t, c, 2, triple{6, 5, 5}, false, false)
	wantStats(t, c, 2, 3, 1, 2)
	put(c, 3, triple{8, 5, 5}, true)
	wantStats(t, c, 2, 3, 2, 2)
	wantRatio(t, c, 0.4)

	wantMiss(t, c, 2, triple{7, 5, 5})
	wantHit(t, c, 1, triple{5, 5, 5}, true)
	wantHit(t, c, 3, triple{8, 5, 5}, true)
}
