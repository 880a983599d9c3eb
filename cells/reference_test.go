package cells_test

import (
	"fmt"
	"math/big"
	"slices"
	"testing"

	"gatehouse/api"
	"gatehouse/cells"
)

// A second reckoning, which has no words: it writes down what was written where, and seeks the last of it whenever a word is asked for.

type written struct{ addr, value int }

type slow struct {
	size    int
	history []written
	entries []api.Access
	refused int
}

func (s *slow) has(addr int) bool { return 0 <= addr && addr < s.size }

func (s *slow) word(addr int) int {
	for i := len(s.history) - 1; i >= 0; i-- {
		if s.history[i].addr == addr {
			return s.history[i].value
		}
	}
	return 0
}

// look is what stands at an address, and the refusal.
func (s *slow) look(addr int) (int, api.Errno) {
	code := api.OK
	if !s.has(addr) {
		code = api.ErrAddress
	} else if s.word(addr) == -(1 << 62) {
		code = api.ErrPoison
	}
	if code != api.OK {
		s.refused++
	}
	if code == api.ErrAddress {
		return 0, code
	}
	return s.word(addr), code
}

func (s *slow) write(addr, value int) { s.history = append(s.history, written{addr, value}) }

func (s *slow) piece(addr, n int) ([]int, api.Errno) {
	// with numbers of any length nothing wraps round
	end := new(big.Int).Add(big.NewInt(int64(addr)), big.NewInt(int64(n)))
	if addr < 0 || n < 0 || end.Cmp(big.NewInt(int64(s.size))) > 0 {
		return nil, api.ErrAddress
	}
	var l []int
	for i := range n {
		l = append(l, addr+i)
	}
	return l, api.OK
}

// sum is x + y, wrapped round.
func sum(x, y int) int {
	n := new(big.Int).Add(big.NewInt(int64(x)), big.NewInt(int64(y)))
	whole := new(big.Int).Lsh(big.NewInt(1), 64)
	n.Mod(n, whole)
	if n.Bit(63) == 1 {
		n.Sub(n, whole)
	}
	return int(n.Int64())
}

// call is one call of a memory, by its name and its numbers.
type call struct {
	name    string
	a, b, c int
}

// of makes the call, and tells its answer.
func (c call) of(m *cells.Memory) string {
	switch c.name {
	case "Load":
		return told(m.Load(c.a))
	case "Store":
		return told(m.Store(c.a, c.b))
	case "Swap":
		return told(m.Swap(c.a, c.b, c.c))
	case "Add":
		return told(m.Add(c.a, c.b))
	case "Poison":
		return told(m.Poison(c.a, c.b))
	case "Clear":
		return told(m.Clear(c.a, c.b))
	case "Words":
		return told(m.Words(c.a, c.b))
	}
	m.Note(c.note())
	return ""
}

// note is the entry that a call of no other name notes.
func (c call) note() api.Access { return entry(int8(c.a), c.b, c.c, c.a, c.b == 0) }

func told(answer ...any) string { return fmt.Sprint(answer...) }

// slowly makes the same call in the second reckoning.
func (c call) slowly(s *slow) string {
	switch c.name {
	case "Load":
		word, e := s.look(c.a)
		s.entries = append(s.entries, entry(1, c.a, word, 0, e == api.OK))
		return told(word, e)
	case "Store":
		was, e := s.look(c.a)
		if e == api.OK {
			s.write(c.a, c.b)
		}
		s.entries = append(s.entries, entry(2, c.a, c.b, was, e == api.OK))
		return told(e)
	case "Swap":
		was, e := s.look(c.a)
		good := e == api.OK && was == c.b
		if good {
			s.write(c.a, c.c)
		}
		s.entries = append(s.entries, entry(3, c.a, c.c, was, good))
		return told(was, good)
	case "Add":
		was, e := s.look(c.a)
		if e == api.OK {
			s.write(c.a, sum(was, c.b))
		}
		s.entries = append(s.entries, entry(4, c.a, c.b, was, e == api.OK))
		return told(was, e)
	case "Poison", "Clear", "Words":
		return c.piecewise(s)
	}
	s.entries = append(s.entries, c.note())
	return ""
}

func (c call) piecewise(s *slow) string {
	piece, e := s.piece(c.a, c.b)
	words := []int{}
	for _, addr := range piece {
		words = append(words, s.word(addr))
		switch c.name {
		case "Poison":
			s.write(addr, -(1 << 62))
		case "Clear":
			s.write(addr, 0)
		}
	}
	if c.name == "Words" {
		return told(words, e)
	}
	return told(e)
}

// wantSame holds all that is to be seen of a memory against the second reckoning.
func wantSame(t *testing.T, m *cells.Memory, s *slow) {
	t.Helper()
	var words []int
	for addr := range s.size {
		words = append(words, s.word(addr))
	}
	wantWords(t, m, words...)
	wantBad(t, m, s.refused)
	if x := m.Trace(); !slices.Equal(x, s.entries) {
		t.Errorf("the trace is %v, want %v", x, s.entries)
	}
	if n := m.Len(); n != s.size {
		t.Errorf("Len() = %d, want %d", n, s.size)
	}
}

// dice is a row of numbers that is the same in each run.
type dice uint64

func (d *dice) throw(n int) int {
	*d = *d*6364136223846793005 + 1442695040888963407
	return int(uint64(*d>>33) % uint64(n))
}

// value is a number for a word: mostly a small one, so that swaps find what they seek.
func (d *dice) value() int {
	switch d.throw(12) {
	case 0:
		return api.Poison
	case 1, 2:
		return numbers[d.throw(len(numbers))]
	}
	return d.throw(3) - 1
}

// addr is an address: mostly one that the memory has.
func (d *dice) addr(words int) int {
	switch d.throw(20) {
	case 0:
		far := outside(words)
		return far[d.throw(len(far))]
	case 1:
		return words
	case 2:
		return -1
	}
	return d.throw(words)
}

// count is for the words of a piece.
func (d *dice) count(words int) int {
	if d.throw(8) == 0 {
		far := nearAndFar(words)
		return far[d.throw(len(far))]
	}
	return d.throw(min(words, 4) + 1)
}

func (d *dice) call(words int) call {
	accesses := []string{"Load", "Store", "Swap", "Add"}
	switch d.throw(16) {
	case 0:
		return call{"Poison", d.addr(words), d.count(words), 0}
	case 1, 2, 3:
		return call{"Clear", d.addr(words), d.count(words), 0}
	case 4:
		return call{"Words", d.addr(words), d.count(words), 0}
	case 5:
		return call{"Note", d.throw(10), d.throw(3) - 1, d.value()}
	}
	return call{accesses[d.throw(4)], d.addr(words), d.value(), d.value()}
}

func TestLongRowsOfCalls(t *testing.T) {
	d := dice(14)
	for row := range 400 {
		words := 1 + d.throw(9)
		m, s := fresh(t, words), &slow{size: words}
		for n := range 300 {
			c := d.call(words)
			if got, want := c.of(m), c.slowly(s); got != want {
				t.Fatalf("row %d, %d words, behind %d calls: %v answers %q, want %q", row, words, n, c, got, want)
			}
		}
		wantSame(t, m, s)
		if t.Failed() {
			t.Fatalf("row %d", row)
		}
	}
}

// The rows have something of everything.
func TestTheRowsTellEnough(t *testing.T) {
	d := dice(14)
	good, refused, missed, poisoned := [5]int{}, 0, 0, 0
	for range 400 {
		words := 1 + d.throw(9)
		m := fresh(t, words)
		for range 300 {
			c := d.call(words)
			bad := m.Bad()
			c.of(m)
			x := m.Trace()
			if m.Bad() > bad {
				refused++
				if c.a >= 0 && c.a < words {
					poisoned++
				}
				continue
			}
			switch c.name {
			case "Load", "Store", "Swap", "Add":
				if last := x[len(x)-1]; last.Good {
					good[last.Kind]++
				} else {
					missed++
				}
			}
		}
	}
	if slices.Min(good[1:]) < 1000 || refused < 1000 || missed < 1000 || poisoned < 1000 {
		t.Errorf("good %v, refused %d, missed %d, poisoned %d: too few to tell", good, refused, missed, poisoned)
	}
}

// alphabet has calls of all kinds on a memory of two words.
func alphabet() []call {
	return []call{
		{"Load", 0, 0, 0}, {"Load", 1, 0, 0}, {"Load", 2, 0, 0}, {"Store", 0, 1, 0}, {"Store", 0, 0, 0}, {"Store", 1, api.Poison, 0}, {"Store", -1, 1, 0},
		{"Swap", 0, 0, 1}, {"Swap", 0, 1, 2}, {"Swap", 1, api.Poison, 1}, {"Swap", 1, 0, api.Poison}, {"Swap", 2, 0, 1},
		{"Add", 0, 1, 0}, {"Add", 0, -1, 0}, {"Add", 1, api.Poison, 0}, {"Add", 2, 1, 0},
		{"Note", 1, 2, 3}, {"Poison", 0, 1, 0}, {"Poison", 0, 2, 0}, {"Poison", 1, 2, 0}, {"Clear", 0, 2, 0}, {"Clear", 1, 1, 0}, {"Clear", 2, 0, 0}, {"Words", 0, 2, 0}, {"Words", 3, 0, 0},
	}
}

func TestAllShortRowsOfCalls(t *testing.T) {
	all := alphabet()
	for _, first := range all {
		for _, second := range all {
			for _, third := range all {
				m, s := fresh(t, 2), &slow{size: 2}
				for _, c := range []call{first, second, third} {
					if got, want := c.of(m), c.slowly(s); got != want {
						t.Fatalf("%v, %v, %v: %v answers %q, want %q", first, second, third, c, got, want)
					}
				}
				wantSame(t, m, s)
				if t.Failed() {
					t.Fatal(first, second, third)
				}
			}
		}
	}
}

// Many words, with pieces of all lengths.
func TestRowsOfCallsOnAGreatMemory(t *testing.T) {
	d := dice(1414)
	const words = 500
	m, s := fresh(t, words), &slow{size: words}
	for range 600 {
		addr := d.throw(words)
		n := d.throw(words - addr + 2)
		kinds := []string{"Poison", "Clear", "Clear", "Words"}
		for _, c := range []call{{kinds[d.throw(4)], addr, n, 0}, {"Store", d.throw(words), d.value(), 0}, {"Load", d.throw(words), 0, 0}, {"Add", d.throw(words), d.value(), 0}} {
			if got, want := c.of(m), c.slowly(s); got != want {
				t.Fatalf("%v answers %q, want %q", c, got, want)
			}
		}
		s.forget()
	}
	wantSame(t, m, s)
}

// forget leaves of what was written what stands there, so that not too much is sought through.
func (s *slow) forget() {
	var now []written
	for addr := range s.size {
		now = append(now, written{addr, s.word(addr)})
	}
	s.history = now
}
