package lock

import "gatehouse/api"

// Waiter comes to hold the lock.
type Waiter struct {
	*Lock
	ticket int
	has    bool // for itself: each number may be a ticket, -1 too
	holds  bool
}

// noTicket is what a waiter tells that has none.
const noTicket = -1

// Enter is a waiter that has made no step.
func (l *Lock) Enter() *Waiter { return &Waiter{Lock: l, ticket: noTicket} }

// Step is a step: does it hold the lock now?
func (w *Waiter) Step() bool {
	switch {
	case !w.has:
		w.take()
	case !w.holds:
		w.holds = w.serves(w.ticket)
	}
	return w.holds
}

// Ready says whether its next step would be more than a look in vain.
func (w *Waiter) Ready() bool { return !w.has || w.holds || w.shows(w.ticket) }

// Ticket is its ticket; -1, while it has none.
func (w *Waiter) Ticket() int { return w.ticket }

// take draws a ticket; where that is refused, the next step draws again.
func (w *Waiter) take() {
	ticket, e := w.draw()
	if e == api.OK {
		w.ticket, w.has = ticket, true
	}
}
