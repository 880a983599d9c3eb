package epoch_test

import (
	"math"
	"slices"
	"testing"

	"gatehouse/api"
	"gatehouse/cells"
	"gatehouse/epoch"
)

// The slots of most tests: the word 1 is the epoch's, the words 4, 5 and 6 are the slots', of a memory of 10.
const at, first, count, size = 1, 4, 3, 10

// fresh is a memory of so many words.
func fresh(t *testing.T, n int) *cells.Memory {
	t.Helper()
	m, e := cells.New(n)
	if e != api.OK {
		t.Fatalf("cells.New(%d): %v", n, e)
	}
	return m
}

// over is the slots of these words.
func over(t *testing.T, m *cells.Memory, at, first, n int) *epoch.Slots {
	t.Helper()
	s, e := epoch.New(m, at, first, n)
	if e != api.OK || s == nil {
		t.Fatalf("New(m, %d, %d, %d) = %v, %v", at, first, n, s, e)
	}
	return s
}

// standing is the memory of most tests, whose epoch and whose slots stand at these numbers.
func standing(t *testing.T, now int, slots ...int) (*cells.Memory, *epoch.Slots) {
	t.Helper()
	m := fresh(t, size)
	set(m, at, now)
	for slot, word := range slots {
		set(m, first+slot, word)
	}
	return m, over(t, m, at, first, count)
}

// set writes a word, a poisoned one too.
func set(m *cells.Memory, addr, value int) {
	m.Clear(addr, 1)
	m.Store(addr, value)
}

// enter is a section of a slot.
func enter(t *testing.T, s *epoch.Slots, slot int) *epoch.Section {
	t.Helper()
	x, e := s.Enter(slot)
	if e != api.OK || x == nil {
		t.Fatalf("Enter(%d) = %v, %v", slot, x, e)
	}
	return x
}

// The entries of a trace that slots, sections and grace periods can make.
func loads(addr, value int) api.Access {
	return api.Access{Kind: api.AccessLoad, Addr: addr, Value: value, Good: true}
}

func stores(addr, value, old int) api.Access {
	return api.Access{Kind: api.AccessStore, Addr: addr, Value: value, Old: old, Good: true}
}

func adds(addr, old int) api.Access {
	return api.Access{Kind: api.AccessAdd, Addr: addr, Value: 1, Old: old, Good: true}
}

func loadRefused(addr int) api.Access {
	return api.Access{Kind: api.AccessLoad, Addr: addr, Value: api.Poison}
}

func storeRefused(addr, value int) api.Access {
	return api.Access{Kind: api.AccessStore, Addr: addr, Value: value, Old: api.Poison}
}

func addRefused(addr int) api.Access {
	return api.Access{Kind: api.AccessAdd, Addr: addr, Value: 1, Old: api.Poison}
}

// wantTraced asks that a call makes just these accesses.
func wantTraced(t *testing.T, m *cells.Memory, what string, call func(), want ...api.Access) {
	t.Helper()
	was, bad := m.Trace(), m.Bad()
	call()
	now := m.Trace()
	if len(now) < len(was) || !slices.Equal(now[:len(was)], was) || !slices.Equal(now[len(was):], want) {
		t.Errorf("%s: behind the trace %v it is %v, want %v more", what, was, now, want)
	}
	for _, x := range want {
		if !x.Good {
			bad++
		}
	}
	if m.Bad() != bad {
		t.Errorf("%s: %d accesses were refused, want %d", what, m.Bad(), bad)
	}
}

// wantBegin asks for a section's step, and for its mark ahead of it and behind it.
func wantBegin(t *testing.T, m *cells.Memory, x *epoch.Section, before int, want bool, mark int, traced ...api.Access) {
	t.Helper()
	wantMark(t, m, x, before)
	wantTraced(t, m, "Section.Step()", func() {
		if got := x.Step(); got != want {
			t.Errorf("Section.Step() = %v, want %v", got, want)
		}
	}, traced...)
	wantMark(t, m, x, mark)
}

func wantMark(t *testing.T, m *cells.Memory, x *epoch.Section, want int) {
	t.Helper()
	was := allWords(t, m)
	wantTraced(t, m, "Mark()", func() {
		for range 2 {
			if got := x.Mark(); got != want {
				t.Errorf("Mark() = %d, want %d", got, want)
			}
		}
	})
	wantWords(t, m, was...)
}

func wantLeave(t *testing.T, m *cells.Memory, s *epoch.Slots, slot int, want api.Errno, traced ...api.Access) {
	t.Helper()
	wantTraced(t, m, "Leave()", func() {
		if got := s.Leave(slot); got != want {
			t.Errorf("Leave(%d) = %v, want %v", slot, got, want)
		}
	}, traced...)
}

// wantStep asks for a grace period's step, and for what At says behind it.
func wantStep(t *testing.T, m *cells.Memory, g *epoch.Grace, want bool, at int, traced ...api.Access) {
	t.Helper()
	wantTraced(t, m, "Grace.Step()", func() {
		if got := g.Step(); got != want {
			t.Errorf("Grace.Step() = %v, want %v", got, want)
		}
	}, traced...)
	wantTraced(t, m, "At()", func() {
		if got := g.At(); got != at {
			t.Errorf("At() = %d, want %d", got, at)
		}
	})
}

// wantAsked asks for what a grace period tells; asking changes nothing.
func wantAsked(t *testing.T, m *cells.Memory, g *epoch.Grace, at int, ready bool) {
	t.Helper()
	was := allWords(t, m)
	wantTraced(t, m, "At(), Ready()", func() {
		for range 2 {
			if got := g.At(); got != at {
				t.Errorf("At() = %d, want %d", got, at)
			}
			if got := g.Ready(); got != ready {
				t.Errorf("Ready() = %v, want %v", got, ready)
			}
		}
	})
	wantWords(t, m, was...)
}

func allWords(t *testing.T, m *cells.Memory) []int {
	t.Helper()
	words, e := m.Words(0, m.Len())
	if e != api.OK {
		t.Fatalf("Words: %v", e)
	}
	return words
}

func wantWords(t *testing.T, m *cells.Memory, want ...int) {
	t.Helper()
	if got := allWords(t, m); !slices.Equal(got, want) {
		t.Errorf("the words are %v, want %v", got, want)
	}
}

// wantRow asks for the epoch and the slots of the memory of most tests; its other words are 0.
func wantRow(t *testing.T, m *cells.Memory, now int, slots ...int) {
	t.Helper()
	want := make([]int, size)
	want[at] = now
	copy(want[first:], slots)
	wantWords(t, m, want...)
}

// dice throws numbers, always the same ones.
type dice uint64

func (d *dice) throw(n int) int {
	*d = *d*6364136223846793005 + 1442695040888963407
	return int(uint64(*d>>33) % uint64(n))
}

// corners are numbers at which a word may stand; the words of all but the last are not poisoned.
func corners() []int {
	return []int{0, 1, -1, -2, 2, 7, 1 << 32, -1 << 32, 1 << 62, math.MaxInt, math.MaxInt - 1, math.MinInt, math.MinInt + 1, api.Poison - 2, api.Poison - 1, api.Poison + 1, api.Poison}
}

// The chapter's examples, in their order.
func TestExamples(t *testing.T) {
	m := fresh(t, size)
	m.Store(1, 5)
	wantNew(t, nil, 1, 4, 3, api.ErrNil)
	wantNew(t, m, 1, 4, 0, api.ErrRange)
	wantNew(t, m, 1, 4, 17, api.ErrRange)
	wantNew(t, m, 10, 4, 3, api.ErrAddress)
	wantNew(t, m, -1, 4, 3, api.ErrAddress)
	wantNew(t, m, 1, 8, 3, api.ErrAddress)
	wantNew(t, m, 1, 0, 3, api.ErrArg)
	s := over(t, m, 1, 4, 3)
	wantNoEnter(t, m, s, 3)
	wantNoEnter(t, m, s, -1)
	wantLeave(t, m, s, 3, api.ErrSlot)

	x := enter(t, s, 1)
	wantBegin(t, m, x, 0, false, 0, loads(1, 5))
	wantBegin(t, m, x, 0, true, 5, stores(5, 5, 0))
	wantBegin(t, m, x, 5, true, 5)
	wantRow(t, m, 5, 0, 5, 0)

	g := s.Wait()
	wantAsked(t, m, g, -1, true)
	wantStep(t, m, g, false, 0, adds(1, 5))
	wantRow(t, m, 6, 0, 5, 0)
	wantStep(t, m, g, false, 1, loads(4, 0))
	wantAsked(t, m, g, 1, false)
	wantStep(t, m, g, false, 1, loads(5, 5))

	y := enter(t, s, 0)
	wantBegin(t, m, y, 0, false, 0, loads(1, 6))
	wantBegin(t, m, y, 0, true, 6, stores(4, 6, 0))

	wantLeave(t, m, s, 1, api.OK, stores(5, 0, 5))
	wantAsked(t, m, g, 1, true)
	wantStep(t, m, g, false, 2, loads(5, 0))
	wantStep(t, m, g, true, -1, loads(6, 0))
	wantStep(t, m, g, true, -1)
	wantAsked(t, m, g, -1, true)

	h := s.Wait()
	wantStep(t, m, h, false, 0, adds(1, 6))
	wantStep(t, m, h, false, 0, loads(4, 6))
	wantAsked(t, m, h, 0, false)
	wantLeave(t, m, s, 0, api.OK, stores(4, 0, 6))
	wantAsked(t, m, h, 0, true)
	wantRow(t, m, 7, 0, 0, 0)
}
