package store

import (
	"gatehouse/api"
	"gatehouse/cells"
)

// refusal is an operation that can't be done: one step, without an access.
type refusal struct {
	parts *parts
	code  api.Errno
}

func (r *refusal) Step(int) bool {
	r.parts.idle()
	return true
}

// claim seeks a slot that nobody has.
type claim struct {
	memory *cells.Memory
	owners int // the address of the first slot's owner
	slots  int
	name   int // what is written there of the task
	slot   int // that is tried next; once it is had, the one
	had    bool
}

func (c *claim) Step(int) bool {
	if _, c.had = c.memory.Swap(c.owners+c.slot, 0, c.name); c.had {
		return true
	}
	c.slot++
	return c.slot == c.slots
}

// release gives a slot back.
type release struct {
	memory *cells.Memory
	owner  int // its address
}

func (r *release) Step(int) bool {
	r.memory.Store(r.owner, 0)
	return true
}
