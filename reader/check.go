package reader

import (
	"gatehouse/api"
	"gatehouse/avc"
	"gatehouse/page"
)

// check is what a machine does behind the version, if it was given a triple.
type check struct {
	*Machine
	cache   *avc.Cache // nil: there is none
	triple  [3]int     // the symbols, by the kinds of their keys less 1: subject, object, action
	tag     int
	places  int    // of the page's table
	numbers [3]int // what stands beside the triple's keys, as far as they were found
	found   int    // how many were; the key that is sought now is the next one's
	place   int    // where the search is
	tried   int    // at how many places it has looked
	columns int    // of the page's masks
}

// recall asks the cache, and begins to go through the page where that does not know.
func (c *check) recall() {
	c.tag = c.answer.Version
	if c.site.Flaw == api.FlawTag {
		c.tag = c.answer.Page
	}
	c.next = c.loadPlaces
	if c.cache == nil {
		return
	}
	if allowed, there := c.cache.Get(c.tag, c.triple[0], c.triple[1], c.triple[2]); there {
		c.answer.Allowed, c.answer.Hit = allowed, true
		c.toEnd()
	}
}

// decide is what a page says; the cache is told.
func (c *check) decide(allowed bool) {
	c.answer.Allowed = allowed
	if c.cache != nil {
		c.cache.Put(c.tag, c.triple[0], c.triple[1], c.triple[2], allowed)
	}
	c.toEnd()
}

func (c *check) loadPlaces(int) {
	places, ok := c.loadOfPage(1)
	if !ok {
		return
	}
	if !isTable(places) {
		c.breaks()
		return
	}
	c.places = places
	c.seek()
}

// seek begins the search for the next key.
func (c *check) seek() {
	c.place, c.tried = page.Hash(c.key(), c.places), 0
	c.next = c.loadKey
}

func (c *check) loadKey(int) {
	word, ok := c.loadOfPage(keyAt(c.place))
	if !ok {
		return
	}
	c.tried++
	switch {
	case word == c.key():
		c.next = c.loadNumber
	case word == 0 || c.tried == c.places:
		c.decide(false)
	default:
		c.place = (c.place + 1) % c.places
	}
}

func (c *check) loadNumber(int) {
	number, ok := c.loadOfPage(keyAt(c.place) + 1)
	if !ok {
		return
	}
	c.numbers[c.found] = number
	c.found++
	if c.found == len(c.numbers) {
		c.next = c.loadColumns
	} else {
		c.seek()
	}
}

func (c *check) loadColumns(int) {
	if columns, ok := c.loadOfPage(3); ok {
		c.columns = columns
		c.next = c.loadMask
	}
}

// loadMask asks for the action's number last: one that can't be is found out by the step that loads the mask.
func (c *check) loadMask(int) {
	x, y, z := c.numbers[0], c.numbers[1], c.numbers[2]
	mask, ok := c.loadOfPage(keyAt(c.places) + (x-1)*c.columns + (y - 1))
	if !ok {
		return
	}
	if z < 1 || z > api.MaxActions {
		c.breaks()
		return
	}
	c.decide(mask>>(z-1)&1 == 1)
}

// loadOfPage is a word of the page, counted from its first one.
func (c *check) loadOfPage(at int) (int, bool) { return c.load(c.answer.Page + at) }

// key is the key that is sought.
func (c *check) key() int { return c.triple[c.found]*4 + c.found + 1 }

// keyAt is where the key of a place stands in a page; the masks stand where that of the place behind the last one would.
func keyAt(place int) int { return 4 + 2*place }

func isTable(places int) bool {
	return places >= 2 && places <= api.MaxTable && places&(places-1) == 0
}
