package avc_test

import (
	"fmt"
	"math/big"
	"slices"
	"testing"

	"gatehouse/api"
	"gatehouse/avc"
)

// A second reckoning: each set is a row of its places that begins where the hand points, so that no hand is kept; what a place holds is told by a text of the triple; and whom the hand finds is told at once, without going round.

type kept struct {
	triple          string
	tag             int
	allowed, marked bool
}

type slowPlace struct {
	number int
	kept   *kept // nil: free
}

type slow struct {
	sets, ways                int
	rows                      map[int][]slowPlace
	hits, misses, out         int
	freed, changed, fullRound int // how often a Get freed a place, a Put found its triple there, all of a set were marked
}

func slowOf(sets, ways int) *slow {
	s := &slow{sets: sets, ways: ways, rows: map[int][]slowPlace{}}
	for set := range sets {
		for number := range ways {
			s.rows[set] = append(s.rows[set], slowPlace{number: number})
		}
	}
	return s
}

// where is the place of a triple in its row, -1 if it is not there.
func (s *slow) where(set int, text string) int {
	return slices.IndexFunc(s.rows[set], func(p slowPlace) bool { return p.kept != nil && p.kept.triple == text })
}

func (s *slow) get(tag int, x triple) (bool, bool) {
	row := s.rows[spotted(x, s.sets)]
	i := s.where(spotted(x, s.sets), fmt.Sprint(x))
	if i < 0 {
		s.misses++
		return false, false
	}
	if row[i].kept.tag != tag {
		row[i].kept = nil
		s.freed++
		s.misses++
		return false, false
	}
	row[i].kept.marked = true
	s.hits++
	return row[i].kept.allowed, true
}

func (s *slow) put(tag int, x triple, allowed bool) {
	set, text := spotted(x, s.sets), fmt.Sprint(x)
	row := s.rows[set]
	if i := s.where(set, text); i >= 0 {
		row[i].kept = &kept{text, tag, allowed, row[i].kept.marked}
		s.changed++
		return
	}
	best := -1
	for i, p := range row {
		if p.kept == nil && (best < 0 || p.number < row[best].number) {
			best = i
		}
	}
	if best < 0 {
		best = s.victim(row)
		s.rows[set] = append(slices.Clone(row[best+1:]), row[:best+1]...)
		best, row = s.ways-1, s.rows[set]
		s.out++
	}
	row[best].kept = &kept{text, tag, allowed, false}
}

// victim is who goes out of a full row: the first that is not marked, all ahead of it losing their marks; where all are marked, the first of all.
func (s *slow) victim(row []slowPlace) int {
	i := slices.IndexFunc(row, func(p slowPlace) bool { return !p.kept.marked })
	passed := i
	if i < 0 {
		s.fullRound++
		i, passed = 0, len(row)
	}
	for _, p := range row[:passed] {
		p.kept.marked = false
	}
	return i
}

func (s *slow) stats() api.Stats {
	held := 0
	for _, row := range s.rows {
		for _, p := range row {
			if p.kept != nil {
				held++
			}
		}
	}
	return api.Stats{Hits: s.hits, Misses: s.misses, Evictions: s.out, Held: held}
}

func (s *slow) ratio() float64 {
	if s.hits == 0 {
		return 0
	}
	f, _ := big.NewRat(int64(s.hits), int64(s.hits+s.misses)).Float64()
	return f
}

// both are a cache and the second reckoning beside it.
type both struct {
	cache *avc.Cache
	slow  *slow
}

func bothOf(t *testing.T, sets, ways int) *both {
	t.Helper()
	return &both{made(t, sets, ways), slowOf(sets, ways)}
}

func (b *both) get(t *testing.T, tag int, x triple) {
	t.Helper()
	allowed, there := b.slow.get(tag, x)
	wantAnswer(t, b.cache, tag, x, allowed, there)
}

func (b *both) put(tag int, x triple, allowed bool) {
	put(b.cache, tag, x, allowed)
	b.slow.put(tag, x, allowed)
}

func (b *both) look(t *testing.T) {
	t.Helper()
	if got, want := b.cache.Stats(), b.slow.stats(); got != want {
		t.Errorf("Stats() = %+v, want %+v", got, want)
	}
	wantRatio(t, b.cache, b.slow.ratio())
}

// All short rows of Gets and Puts of a few triples with two tags, the decision of zeroes among them; at the end a stranger comes, and all triples are asked for.
func TestAllShortRows(t *testing.T) {
	for _, c := range []struct{ ways, triples, calls int }{{1, 2, 5}, {2, 2, 5}, {2, 3, 4}, {3, 4, 4}} {
		kinds := 4 * c.triples
		each(c.calls, kinds, func(calls []int) {
			b := bothOf(t, 1, c.ways)
			for n, call := range calls {
				tag, x := call&1, triple{call >> 2, 0, 0}
				if call&2 == 0 {
					b.put(tag, x, n%2 == 1)
				} else {
					b.get(t, tag, x)
				}
				b.look(t)
			}
			b.put(0, stranger(0), true)
			for n := range c.triples {
				b.get(t, 1, triple{n, 0, 0})
			}
			b.look(t)
			if t.Failed() {
				t.Fatalf("%d ways, calls %v", c.ways, calls)
			}
		})
	}
}

// All rows of hits and newcomers behind a set that is full: the hand and the marks in each order.
func TestAllRowsOfAFullSet(t *testing.T) {
	for _, c := range []struct{ ways, calls int }{{2, 6}, {3, 5}, {4, 5}} {
		each(c.calls, c.ways+3, func(calls []int) {
			b := bothOf(t, 1, c.ways)
			list := letters(c.ways + 2)
			for _, x := range list[:c.ways] {
				b.put(1, x, true)
			}
			for n, call := range calls {
				if call == len(list) {
					b.put(1, stranger(n), n%2 == 0)
				} else {
					b.put(1, list[call], n%2 == 0)
					b.get(t, 1, list[call])
				}
			}
			b.look(t)
			for _, x := range list {
				b.get(t, 1, x)
			}
			for n := range calls {
				b.get(t, 1, stranger(n))
			}
			b.look(t)
			if t.Failed() {
				t.Fatalf("%d ways, calls %v", c.ways, calls)
			}
		})
	}
}

// Long rows by the dice, of many shapes.
func TestLongRows(t *testing.T) {
	d := dice(196)
	var hits, freed, changed, out, round int
	for row := range 400 {
		sets, ways := []int{1, 1, 2, 3, 7, 256}[row%6], 1+row%8
		b := bothOf(t, sets, ways)
		few := 1 + d.throw(2*ways+2)
		for call := range 300 {
			tag, allowed := d.throw(1+row%3), d.throw(2) == 0
			x := b.someTriple(&d, few)
			if d.throw(5) < 2 {
				b.put(tag, x, allowed)
			} else {
				b.get(t, tag, x)
			}
			if call%16 == row%16 {
				b.look(t)
			}
			if t.Failed() {
				t.Fatalf("row %d: %d sets of %d, behind %d calls", row, sets, ways, call)
			}
		}
		b.look(t)
		s := b.slow
		hits, freed, changed, out, round = hits+s.hits, freed+s.freed, changed+s.changed, out+s.out, round+s.fullRound
	}
	if hits < 5000 || freed < 1000 || changed < 1000 || out < 1000 || round < 200 {
		t.Errorf("%d hits, %d freed, %d changed, %d thrown out, %d full rounds: too few to tell", hits, freed, changed, out, round)
	}
}

// someTriple is one of a few of some sets, or one of corners.
func (b *both) someTriple(d *dice, few int) triple {
	if d.throw(12) == 0 {
		c := corners()
		return triple{c[d.throw(3)], c[d.throw(len(c))], c[d.throw(2)]}
	}
	return triple{0, 0, d.throw(few)*b.slow.sets + d.throw(min(2, b.slow.sets))}
}

// What is answered hangs on what the cache was told alone: the same row gives the same again.
func TestTheSameRowAgain(t *testing.T) {
	row := func() []api.Stats {
		d := dice(3)
		c := made(t, 3, 4)
		var told []api.Stats
		for range 1000 {
			x := triple{d.throw(4), d.throw(4), d.throw(4)}
			if d.throw(2) == 0 {
				put(c, d.throw(2), x, true)
			} else {
				get(c, d.throw(2), x)
			}
			told = append(told, c.Stats())
		}
		return told
	}
	want := row()
	for range 5 {
		if !slices.Equal(row(), want) {
			t.Fatal("the same row tells something else")
		}
	}
}
