package epoch_test

import (
	"math"
	"slices"
	"testing"

	"gatehouse/api"
	"gatehouse/cells"
	"gatehouse/epoch"
)

// A second reckoning for users that keep to no rule: the words, the whole trace, and of each section and each period the numbers that its steps were answered; what is asked of them is told from these numbers anew each time.

type slow struct {
	words            []int
	at, first, n     int
	trace            []api.Access
	slots            []int   // of each section: its slot
	begins, looks    [][]int // of each section, of each period: what its steps were answered
	over, vain, lost int     // how many periods came to an end, how many looks were in vain, how many accesses were refused
}

// access is one entry of the trace: what stood there; an access of a poisoned word writes nothing.
func (s *slow) access(kind int8, addr, value int) int {
	was := s.words[addr]
	x := api.Access{Kind: kind, Addr: addr, Value: value, Old: was, Good: was != api.Poison}
	switch {
	case kind == api.AccessLoad:
		x.Value, x.Old = was, 0
	case was == api.Poison:
	case kind == api.AccessStore:
		s.words[addr] = value
	case kind == api.AccessAdd:
		s.words[addr] = was + value
	}
	if !x.Good {
		s.lost++
	}
	s.trace = append(s.trace, x)
	return was
}

// begin is the answer to a section's step.
func (s *slow) begin(i int) bool {
	switch got := s.begins[i]; len(got) {
	case 0:
		s.begins[i] = []int{s.access(api.AccessLoad, s.at, 0)}
		return false
	case 1:
		s.access(api.AccessStore, s.first+s.slots[i], got[0])
		s.begins[i] = append(got, got[0])
	}
	return true
}

func (s *slow) mark(i int) int {
	if len(s.begins[i]) < 2 {
		return 0
	}
	return s.begins[i][1]
}

func (s *slow) leave(slot int) api.Errno {
	if slot < 0 || slot >= s.n {
		return api.ErrSlot
	}
	if s.access(api.AccessStore, s.first+slot, 0) == api.Poison {
		return api.ErrPoison
	}
	return api.OK
}

// passed is how many slots have let a period go that was answered these numbers; -1 ahead of its first step.
func passed(got []int) int {
	if len(got) == 0 {
		return -1
	}
	slots := 0
	for _, mark := range got[1:] {
		if mark == 0 || mark >= got[0]+1 {
			slots++
		}
	}
	return slots
}

// step is the answer to a period's step.
func (s *slow) step(i int) bool {
	switch slot := passed(s.looks[i]); {
	case slot < 0:
		s.looks[i] = []int{s.access(api.AccessAdd, s.at, 1)}
		return false
	case slot == s.n:
		return true
	default:
		s.looks[i] = append(s.looks[i], s.access(api.AccessLoad, s.first+slot, 0))
		if passed(s.looks[i]) == slot {
			s.vain++
		}
	}
	if passed(s.looks[i]) < s.n {
		return false
	}
	s.over++
	return true
}

// asked is what a period tells: At and Ready.
func (s *slow) asked(i int) (int, bool) {
	slot := passed(s.looks[i])
	if slot < 0 || slot == s.n {
		return -1, true
	}
	next := append(slices.Clone(s.looks[i]), s.words[s.first+slot])
	return slot, passed(next) > slot
}

// users are two Slots of the same words, their sections and periods, and the second reckoning beside them.
type users struct {
	memory   *cells.Memory
	slots    [2]*epoch.Slots
	sections []*epoch.Section
	periods  []*epoch.Grace
	slow     slow
}

// usersOf has a memory of the slots' words, from 2 on, the epoch's ahead of them, and a word on each side.
func usersOf(t *testing.T, n, now int) *users {
	t.Helper()
	m := fresh(t, n+3)
	set(m, 1, now)
	u := &users{memory: m, slow: slow{words: allWords(t, m), at: 1, first: 2, n: n, trace: m.Trace()}}
	u.slots = [2]*epoch.Slots{over(t, m, 1, 2, n), over(t, m, 1, 2, n)}
	return u
}

func (u *users) enter(t *testing.T, by, slot int) {
	t.Helper()
	x, e := u.slots[by].Enter(slot)
	if slot < 0 || slot >= u.slow.n {
		if x != nil || e != api.ErrSlot {
			t.Errorf("Enter(%d) = %v, %v", slot, x, e)
		}
		return
	}
	if x == nil || e != api.OK {
		t.Fatalf("Enter(%d) = %v, %v", slot, x, e)
	}
	u.sections = append(u.sections, x)
	u.slow.slots = append(u.slow.slots, slot)
	u.slow.begins = append(u.slow.begins, nil)
}

func (u *users) wait(by int) {
	u.periods = append(u.periods, u.slots[by].Wait())
	u.slow.looks = append(u.slow.looks, nil)
}

func (u *users) begin(t *testing.T, i int) {
	t.Helper()
	if got, want := u.sections[i].Step(), u.slow.begin(i); got != want {
		t.Errorf("Step() of the section %d = %v, want %v", i, got, want)
	}
}

func (u *users) leave(t *testing.T, by, slot int) {
	t.Helper()
	if got, want := u.slots[by].Leave(slot), u.slow.leave(slot); got != want {
		t.Errorf("Leave(%d) = %v, want %v", slot, got, want)
	}
}

func (u *users) step(t *testing.T, i int) {
	t.Helper()
	if got, want := u.periods[i].Step(), u.slow.step(i); got != want {
		t.Errorf("Step() of the period %d = %v, want %v", i, got, want)
	}
}

// poison and write are what others do with the words.
func (u *users) poison(addr int) {
	u.memory.Poison(addr, 1)
	u.slow.words[addr] = api.Poison
}

func (u *users) write(addr, value int) {
	u.memory.Clear(addr, 1)
	u.slow.words[addr] = 0
	u.memory.Store(addr, value)
	u.slow.access(api.AccessStore, addr, value)
}

// look holds all that is to be seen against the second reckoning.
func (u *users) look(t *testing.T) {
	t.Helper()
	for i, x := range u.sections {
		if got, want := x.Mark(), u.slow.mark(i); got != want {
			t.Errorf("Mark() of the section %d = %d, want %d", i, got, want)
		}
	}
	for i, g := range u.periods {
		if slot, ready := u.slow.asked(i); g.At() != slot || g.Ready() != ready {
			t.Errorf("the period %d: At() = %d, Ready() = %v, want %d, %v", i, g.At(), g.Ready(), slot, ready)
		}
	}
	wantWords(t, u.memory, u.slow.words...)
	if !slices.Equal(u.memory.Trace(), u.slow.trace) || u.memory.Bad() != u.slow.lost {
		t.Errorf("the trace is %v (%d bad), want %v (%d bad)", u.memory.Trace(), u.memory.Bad(), u.slow.trace, u.slow.lost)
	}
}

// All short rows of seven calls: a section's and a period's steps, Leave, each word poisoned, each word written again.
func TestAllShortRowsOfCalls(t *testing.T) {
	for _, start := range []struct{ now, calls int }{{1, 6}, {0, 5}, {-1, 5}, {math.MaxInt, 5}, {math.MinInt, 5}, {api.Poison - 1, 5}, {api.Poison, 5}} {
		each(start.calls, 7, func(calls []int) {
			u := usersOf(t, 1, start.now)
			u.enter(t, 0, 0)
			u.wait(1)
			for _, call := range calls {
				switch call {
				case 0:
					u.begin(t, 0)
				case 1:
					u.step(t, 0)
				case 2:
					u.leave(t, 0, 0)
				case 3, 4:
					u.poison(call - 2)
				default:
					u.write(call-4, start.now)
				}
			}
			u.look(t)
			if t.Failed() {
				t.Fatalf("from %d on, calls %v", start.now, calls)
			}
		})
	}
}

// All rows of steps of two sections and two periods of two slots, each of which has a first step ahead of the row.
func TestAllRowsOfSteps(t *testing.T) {
	for _, start := range []struct{ now, calls int }{{1, 7}, {-1, 6}, {math.MaxInt, 6}} {
		each(start.calls, 5, func(calls []int) {
			u := usersOf(t, 2, start.now)
			for i := range 2 {
				u.enter(t, i, i)
				u.wait(i)
			}
			for i := range 2 {
				u.begin(t, i)
				u.step(t, i)
			}
			for _, call := range calls {
				switch call {
				case 0, 1:
					u.begin(t, call)
				case 2, 3:
					u.step(t, call-2)
				default:
					u.leave(t, 0, 0)
				}
			}
			u.look(t)
			if t.Failed() {
				t.Fatalf("from %d on, calls %v", start.now, calls)
			}
		})
	}
}

// Long rows by many sections and periods of two Slots of the same words, with others who write, poison and clear.
func TestLongRowsOfCalls(t *testing.T) {
	d := dice(1806)
	over, vain, lost := 0, 0, 0
	for row := range 200 {
		n, starts := []int{1, 2, 3, 7, 16}[row%5], corners()
		u := usersOf(t, n, starts[row%len(starts)])
		for call := range 300 {
			u.anyCall(t, &d, starts)
			if row%4 > 0 {
				u.look(t)
			}
			if t.Failed() {
				t.Fatalf("row %d: %d slots, behind %d calls", row, n, call)
			}
		}
		u.look(t)
		over, vain, lost = over+u.slow.over, vain+u.slow.vain, lost+u.slow.lost
	}
	if over < 500 || vain < 500 || lost < 500 {
		t.Errorf("%d periods came to an end, %d looks were in vain, %d accesses refused: too few to tell", over, vain, lost)
	}
}

// anyCall is one call, by the dice.
func (u *users) anyCall(t *testing.T, d *dice, starts []int) {
	t.Helper()
	n := u.slow.n
	switch kind := d.throw(60); {
	case kind == 0:
		u.poison(1 + d.throw(n+1))
	case kind < 4:
		u.write(1+d.throw(n+1), starts[d.throw(len(starts))])
	case kind < 6:
		u.write(2+d.throw(n), u.slow.words[1]+d.throw(3)-1)
	case kind < 8:
		u.write(1, 1+d.throw(4))
	case kind < 13 || len(u.sections) == 0:
		u.enter(t, d.throw(2), d.throw(n+2)-1)
	case kind < 15 || len(u.periods) == 0:
		u.wait(d.throw(2))
	case kind < 24:
		u.leave(t, d.throw(2), d.throw(n+2)-1)
	case kind < 35:
		u.begin(t, d.throw(len(u.sections)))
	default:
		u.step(t, d.throw(len(u.periods)))
	}
}
