package arena_test

import (
	"math"
	"slices"
	"testing"

	"gatehouse/api"
	"gatehouse/arena"
	"gatehouse/cells"
)

// A second reckoning, word by word: it knows of each word which piece has it, and seeks from the first word on.

type slow struct {
	from   int
	owners []int // of each word: 0, or the number of the piece that is out
	words  []int
	count  int
}

func slowly(from int, words []int) *slow {
	return &slow{from: from, owners: make([]int, len(words)), words: slices.Clone(words)}
}

// room says whether n words from an address on are all free.
func (s *slow) room(addr, n int) bool {
	for i := range n {
		if addr+i >= len(s.owners) || s.owners[addr+i] != 0 {
			return false
		}
	}
	return true
}

func (s *slow) take(n int) (int, api.Errno) {
	if n <= 0 {
		return 0, api.ErrArg
	}
	for addr := s.from; addr < len(s.owners); addr++ {
		if s.room(addr, n) {
			s.count++
			for i := range n {
				s.owners[addr+i], s.words[addr+i] = s.count, 0
			}
			return addr, api.OK
		}
	}
	return 0, api.ErrRoom
}

func (s *slow) give(addr int) api.Errno {
	if addr < s.from || addr >= len(s.owners) || s.owners[addr] == 0 {
		return api.ErrBlock
	}
	piece := s.owners[addr]
	if slices.Index(s.owners, piece) != addr {
		return api.ErrBlock
	}
	for i, owner := range s.owners {
		if owner == piece {
			s.owners[i], s.words[i] = 0, -(1 << 62)
		}
	}
	return api.OK
}

func (s *slow) blocks() []api.Block {
	var l []api.Block
	for addr := s.from; addr < len(s.owners); addr++ {
		if addr > s.from && s.owners[addr] == s.owners[addr-1] {
			l[len(l)-1].Size++
		} else {
			l = append(l, api.Block{Addr: addr, Size: 1, Free: s.owners[addr] == 0})
		}
	}
	return l
}

// call is a Take of n words, or a Give of an address.
type call struct {
	give bool
	n    int
}

// play makes one call of both, and holds the answers against one another.
func (c call) play(t *testing.T, a *arena.Arena, s *slow) {
	t.Helper()
	if c.give {
		if got, want := a.Give(c.n), s.give(c.n); got != want {
			t.Errorf("Give(%d) = %v, want %v", c.n, got, want)
		}
		return
	}
	addr, e := a.Take(c.n)
	if want, code := s.take(c.n); addr != want || e != code {
		t.Errorf("Take(%d) = %d, %v, want %d, %v", c.n, addr, e, want, code)
	}
}

// wantSame holds all that is to be seen of an arena against the second reckoning.
func wantSame(t *testing.T, m *cells.Memory, a *arena.Arena, s *slow) {
	t.Helper()
	wantBlocks(t, a, s.blocks()...)
	wantWords(t, m, s.words...)
}

// All rows of five calls on four words.
func TestAllShortRowsOfCalls(t *testing.T) {
	var all []call
	for n := range 6 {
		all = append(all, call{false, n}, call{true, n})
	}
	for code := range 12 * 12 * 12 * 12 * 12 {
		m, a := both(t, 5, 1)
		s := slowly(1, words(t, m))
		var row []call
		for i, c := 0, code; i < 5; i, c = i+1, c/12 {
			row = append(row, all[c%12])
			row[i].play(t, a, s)
		}
		wantSame(t, m, a, s)
		if t.Failed() {
			t.Fatal(row)
		}
	}
}

// next is a call that mostly goes well: a piece that may fit, or one that is out.
func (d *dice) next(s *slow, greatest int) call {
	switch d.throw(20) {
	case 0:
		return call{false, []int{0, -1, len(s.owners), math.MaxInt, math.MinInt, len(s.owners) - s.from, len(s.owners) - s.from + 1}[d.throw(7)]}
	case 1:
		return call{true, []int{-1, 0, s.from - 1, len(s.owners), math.MaxInt, math.MinInt}[d.throw(6)]}
	case 2, 3:
		return call{true, d.throw(len(s.owners))}
	}
	l := s.blocks()
	if b := l[d.throw(len(l))]; d.throw(2) == 0 {
		return call{true, b.Addr}
	}
	return call{false, 1 + d.throw(greatest)}
}

// kinds counts what has happened in long rows.
type kinds struct{ taken, refused, given, not int }

func (k *kinds) count(c call, was, now int) {
	switch {
	case c.give && now < was:
		k.given++
	case c.give:
		k.not++
	case now > was:
		k.taken++
	default:
		k.refused++
	}
}

// Long rows, with looks at each moment, or at the end alone; others write into the words meanwhile.
func TestLongRowsOfCalls(t *testing.T) {
	d := dice(15)
	var k kinds
	for row := range 300 {
		n := 1 + d.throw(60)
		from := d.throw(n)
		m := numbered(t, n)
		a, s := over(t, m, from), slowly(from, words(t, m))
		trace, looks, greatest := m.Trace(), d.throw(3) > 0, 1+d.throw(9)
		for i := range 300 {
			if d.throw(5) == 0 {
				at := d.throw(n)
				m.Clear(at, 1)
				s.words[at] = 0
			}
			c := d.next(s, greatest)
			was := a.Live()
			c.play(t, a, s)
			k.count(c, was, a.Live())
			if looks {
				wantSame(t, m, a, s)
			}
			if t.Failed() {
				t.Fatalf("row %d, %d words from %d on, behind %d calls: %v", row, n, from, i, c)
			}
		}
		wantSame(t, m, a, s)
		if !slices.Equal(m.Trace(), trace) || m.Bad() != 0 {
			t.Fatalf("row %d: accesses were made", row)
		}
	}
	if k.taken < 10000 || k.refused < 10000 || k.given < 10000 || k.not < 10000 {
		t.Errorf("%+v: too few to tell", k)
	}
}

// Two arenas of one memory, in turn: each by its own pieces, the words by both.
func TestLongRowsOfTwoArenas(t *testing.T) {
	d := dice(1517)
	for row := range 60 {
		m := numbered(t, 20)
		a, b := over(t, m, 2), over(t, m, 7)
		s, r := slowly(2, words(t, m)), slowly(7, nil)
		r.owners, r.words = make([]int, 20), s.words // one memory: the same words
		for i := range 300 {
			if d.throw(2) == 0 {
				d.next(s, 6).play(t, a, s)
			} else {
				d.next(r, 6).play(t, b, r)
			}
			wantSame(t, m, a, s)
			wantSame(t, m, b, r)
			if t.Failed() {
				t.Fatalf("row %d, behind %d calls", row, i)
			}
		}
	}
}
