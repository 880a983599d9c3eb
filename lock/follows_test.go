package lock_test

import (
	"fmt"
	"math"
	"slices"
	"testing"

	"gatehouse/api"
	"gatehouse/cells"
	"gatehouse/lock"
)

// 17.6

// queue is a lock whose users keep to the rules (each leaves once, behind its holding), beside a reckoning that knows no tickets: who came behind whom, and how many have left.
type queue struct {
	memory  *cells.Memory
	lock    *lock.Lock
	waiters []*lock.Waiter
	start   int
	came    []int  // the waiters that have made a step, in the order of their first ones
	place   []int  // of each waiter: its place there, -1 ahead of its first step
	held    []bool // of each waiter: has a step answered true
	left    int    // how many have left; they are the first that came
	loads   int    // how many looks there were
}

// queued is a lock whose two words begin alike, with n waiters.
func queued(t *testing.T, n, start int) *queue {
	t.Helper()
	m, l := standing(t, start, start)
	q := &queue{memory: m, lock: l, start: start, place: slices.Repeat([]int{-1}, n), held: make([]bool, n)}
	for range n {
		q.waiters = append(q.waiters, l.Enter())
	}
	return q
}

// step lets a waiter make a step, and holds the answer against who is ahead of it.
func (q *queue) step(t *testing.T, i int) {
	t.Helper()
	want := false
	switch {
	case q.place[i] < 0:
		q.place[i] = len(q.came)
		q.came = append(q.came, i)
	case !q.held[i]:
		q.loads++
		want = q.place[i] == q.left
	default:
		want = true
	}
	if got := q.waiters[i].Step(); got != want {
		t.Errorf("Step() of %d = %v, want %v: %d have left, in the order %v", i, got, want, q.left, q.came)
	}
	q.held[i] = want
}

// inside says whether a waiter holds and has not left.
func (q *queue) inside(i int) bool { return q.held[i] && q.place[i] >= q.left }

// leave lets a waiter leave, if it may.
func (q *queue) leave(t *testing.T, i int) {
	t.Helper()
	if !q.inside(i) {
		return
	}
	if e := q.lock.Leave(); e != api.OK {
		t.Errorf("Leave() = %v", e)
	}
	q.left++
}

// look holds all that is to be seen against the reckoning.
func (q *queue) look(t *testing.T) {
	t.Helper()
	for i, w := range q.waiters {
		ticket, ready := -1, true
		if q.place[i] >= 0 {
			ticket, ready = q.start+q.place[i], q.place[i] <= q.left
		}
		if w.Ticket() != ticket || w.Ready() != ready {
			t.Errorf("%d: Ticket() = %d, Ready() = %v, want %d, %v: %d have left, in the order %v", i, w.Ticket(), w.Ready(), ticket, ready, q.left, q.came)
		}
	}
	wantWords(t, q.memory, 0, 0, q.start+len(q.came), q.start+q.left)
	if n := len(q.memory.Trace()); n != 2+len(q.came)+q.loads+q.left { // the two words were written at the beginning
		t.Errorf("%d entries behind %d tickets, %d looks, %d leaves", n, len(q.came), q.loads, q.left)
	}
}

// each goes over all lists of n numbers below a bound.
func each(n, bound int, look func([]int)) {
	list := make([]int, n)
	for {
		look(list)
		place := n - 1
		for place >= 0 && list[place] == bound-1 {
			list[place] = 0
			place--
		}
		if place < 0 {
			return
		}
		list[place]++
	}
}

// All orders in which a few waiters step and leave.
func TestAllShortOrders(t *testing.T) {
	for _, c := range []struct{ waiters, calls, start int }{{1, 8, 0}, {2, 8, 0}, {2, 7, -2}, {3, 6, 0}, {3, 6, -1}, {3, 5, math.MaxInt}, {4, 5, math.MaxInt - 1}} {
		each(c.calls, 2*c.waiters, func(calls []int) {
			q := queued(t, c.waiters, c.start)
			for _, call := range calls {
				if call < c.waiters {
					q.step(t, call)
				} else {
					q.leave(t, call-c.waiters)
				}
			}
			q.look(t)
			if t.Failed() {
				t.Fatalf("%d waiters from %d on, calls %v", c.waiters, c.start, calls)
			}
		})
	}
}

// ahead is how many waiters have earlier tickets than one, and have not left.
func (q *queue) ahead(i int) int {
	return len(slices.DeleteFunc(slices.Clone(q.came[:q.place[i]]), func(o int) bool { return q.held[o] && !q.inside(o) }))
}

// Who holds next is fixed: while k are ahead of one it is let in by the k-th Leave from then on, and no earlier.
func TestLetInByTheLeaveThatIsDue(t *testing.T) {
	d := dice(176)
	for row := range 60 {
		n := 2 + d.throw(12)
		q := queued(t, n, []int{0, -3, 40, math.MaxInt}[row%4])
		due := make([]int, n) // of each that has a ticket: how many have left when it is let in
		for moment := 0; q.left < n; moment++ {
			i := d.throw(n)
			if came := q.place[i] >= 0; q.inside(i) && d.throw(3) == 0 {
				q.leave(t, i)
			} else {
				q.step(t, i)
				if !came {
					due[i] = q.left + q.ahead(i)
				}
			}
			inside := 0
			for o := range n {
				if q.inside(o) {
					inside++
				}
				if q.place[o] >= 0 && !q.held[o] && (q.left+q.ahead(o) != due[o] || q.waiters[o].Ready() != (q.left == due[o])) {
					t.Errorf("%d was to be let in by the Leave %d; now it is %d, and %d are ahead of it", o, due[o], q.left, q.ahead(o))
				}
			}
			if inside > 1 {
				t.Errorf("%d hold, and have not left", inside)
			}
			q.look(t)
			if t.Failed() || moment > 100000 {
				t.Fatalf("row %d, moment %d: %d of %d have left", row, moment, q.left, n)
			}
		}
	}
}

// They hold in the order of their first steps, whoever looks most often.
func TestHoldInTheOrderOfFirstSteps(t *testing.T) {
	d := dice(17)
	const n = 64
	for row := range 20 {
		q := queued(t, n, 0)
		var order []int
		for q.left < n {
			i := d.throw(n)
			if d.throw(2) == 0 { // some are picked again and again
				i = d.throw(1 + row%7)
			}
			was := q.held[i]
			q.step(t, i)
			if !was && q.held[i] {
				order = append(order, i)
			}
			if q.inside(i) && d.throw(4) > 0 {
				q.leave(t, i)
			}
		}
		q.look(t)
		if !slices.Equal(order, q.came) {
			t.Errorf("they came as %v, and held as %v", q.came, order)
		}
	}
}

// The first step of its own behind the Leave that lets it in makes it hold, also if many steps of others lie between.
func TestTheNextStepOfItsOwn(t *testing.T) {
	for behind := range 6 {
		q := queued(t, 8, 0)
		for i := range 7 {
			q.step(t, i)
		}
		for i := range behind {
			q.step(t, i)
			q.leave(t, i)
		}
		for range 10 {
			for i := behind + 1; i < 8; i++ {
				q.step(t, i)
				if q.held[i] {
					t.Errorf("%d holds ahead of %d", i, behind)
				}
			}
		}
		q.step(t, behind)
		if !q.inside(behind) {
			t.Errorf("%d does not hold", behind)
		}
		q.look(t)
	}
}

// A waiter's first two steps make it hold, if nobody is ahead of it: at each beginning of the two words, and behind many that have left.
func TestTwoStepsWithNobodyAhead(t *testing.T) {
	for _, start := range corners() {
		t.Run(fmt.Sprint(start), func(t *testing.T) {
			m, l := standing(t, start, start)
			for n := range 100 {
				w := l.Enter()
				wantStep(t, m, w, false, adds(next, start+n))
				wantStep(t, m, w, true, loads(serving, start+n))
				wantLeave(t, m, l, api.OK, adds(serving, start+n))
			}
			wantWords(t, m, 0, 0, start+100, start+100)
		})
	}
}
