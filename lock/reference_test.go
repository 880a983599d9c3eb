package lock_test

import (
	"math"
	"slices"
	"testing"

	"gatehouse/api"
	"gatehouse/cells"
	"gatehouse/lock"
)

// A second reckoning for users that keep to no rule: what each waiter has found so far, the words, and the whole trace.

type slow struct {
	words []int
	trace []api.Access
	found [][]int // of each waiter: nothing; the ticket; the ticket and what the word was when it came to hold
}

// step is the answer to a waiter's step, by the table of 17.2.
func (s *slow) step(i int) bool {
	switch len(s.found[i]) {
	case 0:
		if s.words[next] == api.Poison {
			s.trace = append(s.trace, addRefused(next))
			return false
		}
		s.trace = append(s.trace, adds(next, s.words[next]))
		s.found[i] = []int{s.words[next]}
		s.words[next]++
		return false
	case 1:
		if s.words[serving] == api.Poison {
			s.trace = append(s.trace, loadRefused(serving))
			return false
		}
		s.trace = append(s.trace, loads(serving, s.words[serving]))
		if s.words[serving] != s.found[i][0] {
			return false
		}
		s.found[i] = append(s.found[i], s.words[serving])
	}
	return true
}

func (s *slow) leave() api.Errno {
	if s.words[serving] == api.Poison {
		s.trace = append(s.trace, addRefused(serving))
		return api.ErrPoison
	}
	s.trace = append(s.trace, adds(serving, s.words[serving]))
	s.words[serving]++
	return api.OK
}

// asked is what a waiter tells: Ticket and Ready.
func (s *slow) asked(i int) (int, bool) {
	switch f := s.found[i]; len(f) {
	case 0:
		return -1, true
	case 1:
		return f[0], s.words[serving] == f[0]
	default:
		return f[0], true
	}
}

// users are some locks of the same words, their waiters, and the second reckoning beside them.
type users struct {
	memory  *cells.Memory
	locks   []*lock.Lock
	waiters []*lock.Waiter
	slow    slow
}

func usersOf(t *testing.T, locks, waiters, atNext, atServing int) *users {
	t.Helper()
	m, l := standing(t, atNext, atServing)
	u := &users{memory: m, locks: []*lock.Lock{l}, slow: slow{words: allWords(t, m), trace: m.Trace()}}
	for len(u.locks) < locks {
		u.locks = append(u.locks, over(t, m, next, serving))
	}
	for i := range waiters {
		u.enter(i % locks)
	}
	return u
}

func (u *users) enter(by int) {
	u.waiters = append(u.waiters, u.locks[by].Enter())
	u.slow.found = append(u.slow.found, nil)
}

func (u *users) step(t *testing.T, i int) {
	t.Helper()
	if got, want := u.waiters[i].Step(), u.slow.step(i); got != want {
		t.Errorf("Step() of %d = %v, want %v", i, got, want)
	}
}

func (u *users) leave(t *testing.T, by int) {
	t.Helper()
	if got, want := u.locks[by].Leave(), u.slow.leave(); got != want {
		t.Errorf("Leave() = %v, want %v", got, want)
	}
}

// poison and write are what others do with the words.
func (u *users) poison(addr int) {
	u.memory.Poison(addr, 1)
	u.slow.words[addr] = api.Poison
}

func (u *users) write(addr, value int) {
	u.memory.Clear(addr, 1)
	u.memory.Add(addr, value)
	u.slow.words[addr] = value
	u.slow.trace = append(u.slow.trace, api.Access{Kind: api.AccessAdd, Addr: addr, Value: value, Good: true})
}

// look holds all that is to be seen against the second reckoning.
func (u *users) look(t *testing.T) {
	t.Helper()
	for i, w := range u.waiters {
		if ticket, ready := u.slow.asked(i); w.Ticket() != ticket || w.Ready() != ready {
			t.Errorf("%d: Ticket() = %d, Ready() = %v, want %d, %v", i, w.Ticket(), w.Ready(), ticket, ready)
		}
	}
	wantWords(t, u.memory, u.slow.words...)
	if !slices.Equal(u.memory.Trace(), u.slow.trace) {
		t.Errorf("the trace is %v, want %v", u.memory.Trace(), u.slow.trace)
	}
}

// All short rows of seven calls: two waiters' steps, Leave, each word poisoned, each word written again.
func TestAllShortRowsOfCalls(t *testing.T) {
	for _, start := range []struct{ next, serving, calls int }{{0, 0, 6}, {-1, -1, 5}, {math.MaxInt, math.MaxInt, 5}, {api.Poison - 1, api.Poison - 1, 5}, {1, 0, 5}, {0, 1, 5}} {
		each(start.calls, 7, func(calls []int) {
			u := usersOf(t, 1, 2, start.next, start.serving)
			for _, call := range calls {
				switch call {
				case 0, 1:
					u.step(t, call)
				case 2:
					u.leave(t, 0)
				case 3, 4:
					u.poison(next + call - 3)
				default:
					u.write(next+call-5, start.serving)
				}
			}
			u.look(t)
			if t.Failed() {
				t.Fatalf("from %+v, calls %v", start, calls)
			}
		})
	}
}

// Long rows by many waiters of two locks of the same words, with others who write, poison and clear.
func TestLongRowsOfCalls(t *testing.T) {
	d := dice(1701)
	held, refused := 0, 0
	for row := range 200 {
		start := append(corners(), api.Poison, api.Poison-2, api.Poison-5)[row%15]
		u := usersOf(t, 2, 1, start, start-d.throw(3))
		looks := row%4 > 0
		for call := range 250 {
			switch d.throw(60) {
			case 0:
				u.poison(next + d.throw(2))
			case 1, 2:
				u.write(next+d.throw(2), []int{start, start + d.throw(5), -1, 0, api.Poison, math.MaxInt}[d.throw(6)])
			case 3, 4, 5, 6, 7: // so that some come to hold
				i := d.throw(len(u.waiters))
				ticket, _ := u.slow.asked(i)
				u.write(serving, ticket)
				u.step(t, i)
			case 8, 9, 10, 11, 12, 13, 14:
				u.enter(d.throw(2))
			case 15, 16, 17, 18, 19, 20, 21, 22:
				u.leave(t, d.throw(2))
			default:
				u.step(t, d.throw(len(u.waiters)))
			}
			if looks {
				u.look(t)
			}
			if t.Failed() {
				t.Fatalf("row %d from %d on, behind %d calls", row, start, call)
			}
		}
		u.look(t)
		for _, f := range u.slow.found {
			held += len(f) / 2
		}
		refused += u.memory.Bad()
	}
	if held < 1000 || refused < 1000 {
		t.Errorf("%d came to hold, %d accesses were refused: too few to tell", held, refused)
	}
}
