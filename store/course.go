package store

import (
	"slices"

	"gatehouse/api"
	"gatehouse/own"
)

// course is what was seen of a store, from moment to moment.
type course struct {
	events   []api.Event
	versions []api.Version
	picked   []int // of each moment: the task
	out      []int // behind each moment: how many pieces of the arena were out
}

// noMoment is told of what has not come.
const noMoment = -1

// now is the moment that goes on, or comes next.
func (c *course) now() int { return len(c.picked) }

// passes ends the moment.
func (c *course) passes(task, out int) {
	c.picked = append(c.picked, task)
	c.out = append(c.out, out)
}

// fewer says whether less pieces are out than behind the moment ahead of this one.
func (c *course) fewer(out int) bool { return out < c.out[len(c.out)-1] }

// begins is an operation's event, at the moment of its first step: its place among the events.
func (c *course) begins(task, number int, kind int8) int {
	c.events = append(c.events, api.Event{Task: task, Number: number, Kind: kind, Began: c.now(), Ended: noMoment, Point: noMoment})
	return len(c.events) - 1
}

func (c *course) publishes(v api.Version) { c.versions = append(c.versions, v) }

// givesBack is told of a page that goes now, by its address: of those that lay there it is the last one that has not gone. With a flaw it may be nobody's: a page that was not published yet.
func (c *course) givesBack(addr int) {
	for i := len(c.versions) - 1; i >= 0; i-- {
		if v := &c.versions[i]; v.Addr == addr && v.Gone == noMoment {
			v.Gone = c.now()
			return
		}
	}
}

// told is what a run tells of all this, in memory of its own.
func (c *course) told() api.Run {
	r := api.Run{Events: slices.Clone(c.events), Tasks: slices.Clone(c.picked), Live: slices.Clone(c.out)}
	for _, v := range c.versions {
		v.Policy = own.Policy(v.Policy)
		r.Versions = append(r.Versions, v)
	}
	return r
}
