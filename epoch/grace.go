package epoch

// Grace waits for all sections that began ahead of it.
type Grace struct {
	row
	since int // its epoch: a slot with an older one holds it up
	next  int // what its next step is for: raising, a slot, or behind the last slot nothing
}

// raising is ahead of the slots: the epoch is to be raised.
const raising = -1

// Step is a step: is it over now?
func (g *Grace) Step() bool {
	switch {
	case g.next == raising:
		g.since = g.raise()
		g.next = 0
	case g.has(g.next):
		if g.lets(g.look(g.next)) {
			g.next++
		}
	}
	return g.next == g.n
}

// Ready says whether its next step would be more than a look in vain.
func (g *Grace) Ready() bool { return !g.has(g.next) || g.lets(g.peek(g.next)) }

// At is the slot that it looks at; -1, while it looks at none.
func (g *Grace) At() int {
	if !g.has(g.next) {
		return -1
	}
	return g.next
}

// lets says whether a slot that holds this lets the period go on.
func (g *Grace) lets(mark int) bool { return mark == 0 || mark >= g.since }
