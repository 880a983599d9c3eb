package reader_test

import (
	"math"
	"strings"
	"testing"

	"gatehouse/api"
	"gatehouse/avc"
	"gatehouse/reader"
)

// 23.2

// endings are machines that come to their ends in each way there is: what is done to the site, the machine, its accesses, its answer.
type ending struct {
	what     string
	flaw     int
	change   func(s *reader.Site)
	cache    bool // one that knows that ann may open the door, by version 5 and by page 10
	version  bool
	action   int
	accesses string
	point    int // which of its steps
	answer   reader.Answer
}

func endings() []ending {
	none := func(*reader.Site) {}
	write := func(addr, value int) func(*reader.Site) {
		return func(s *reader.Site) { set(s.Memory, addr, value) }
	}
	const begin, end = "1 4=1 0 10 ", " 4=0"
	return []ending{
		{what: "allowed", change: none, action: 1, accesses: begin + throughPage + end, point: 2, answer: reader.Answer{Allowed: true, Version: 5, Page: 10}},
		{what: "not allowed", change: write(30, 0), action: 1, accesses: begin + throughPage + end, point: 2, answer: reader.Answer{Version: 5, Page: 10}},
		{what: "no such action", change: none, action: 2, accesses: begin + "11 28 29 18 19 24" + end, point: 2, answer: reader.Answer{Version: 5, Page: 10}},
		{what: "no such object", change: write(18, 0), action: 1, accesses: begin + "11 28 29 18" + end, point: 2, answer: reader.Answer{Version: 5, Page: 10}},
		{what: "no such subject", change: write(28, 0), action: 1, accesses: begin + "11 28" + end, point: 2, answer: reader.Answer{Version: 5, Page: 10}},
		{what: "a hit", change: none, cache: true, action: 1, accesses: begin + end, point: 2, answer: reader.Answer{Allowed: true, Hit: true, Version: 5, Page: 10}},
		{what: "a hit by the page", flaw: api.FlawTag, change: write(10, 6), cache: true, action: 1, accesses: begin + end, point: 2, answer: reader.Answer{Allowed: true, Hit: true, Version: 6, Page: 10}},
		{what: "no current word", change: func(s *reader.Site) { s.Current = 40 }, action: 1, accesses: "1 4=1 40 4=0", point: 2, answer: reader.Answer{Broken: true}},
		{what: "no page", change: write(0, -1), action: 1, accesses: "1 4=1 0 -1 4=0", point: 2, answer: reader.Answer{Broken: true, Page: -1}},
		{what: "no table", change: write(11, 0), action: 1, accesses: begin + "11" + end, point: 2, answer: reader.Answer{Broken: true, Version: 5, Page: 10}},
		{what: "no number", change: write(17, 17), action: 1, accesses: begin + throughPage + end, point: 2, answer: reader.Answer{Broken: true, Version: 5, Page: 10}},
		{what: "late", flaw: api.FlawLate, change: none, action: 1, accesses: "0 1 4=1 10 " + throughPage + end, point: 0, answer: reader.Answer{Allowed: true, Version: 5, Page: 10}},
		{what: "late, no current word", flaw: api.FlawLate, change: func(s *reader.Site) { s.Current = 40 }, action: 1, accesses: "40 4=0", point: 0, answer: reader.Answer{Broken: true}},
		{what: "the version", change: none, version: true, accesses: begin + end, point: 2, answer: reader.Answer{Version: 5, Page: 10}},
		{what: "the version, no current word", change: func(s *reader.Site) { s.Current = -1 }, version: true, accesses: "1 4=1 -1 4=0", point: 2, answer: reader.Answer{Broken: true}},
		{what: "the version, no page", change: write(0, 77), version: true, accesses: "1 4=1 0 77 4=0", point: 2, answer: reader.Answer{Broken: true, Page: 77}},
		{what: "the version, late", flaw: api.FlawLate, change: none, version: true, accesses: "0 1 4=1 10 4=0", point: 0, answer: reader.Answer{Version: 5, Page: 10}},
		{what: "the version, late, no current word", flaw: api.FlawLate, change: func(s *reader.Site) { s.Current = -1 }, version: true, accesses: "-1 4=0", point: 0, answer: reader.Answer{Broken: true}},
	}
}

// ready is the site of an ending, its cache and its machine.
func (e ending) ready(t *testing.T) (*reader.Site, *avc.Cache, *reader.Machine) {
	t.Helper()
	s := flawed(t, e.flaw)
	e.change(s)
	if e.version {
		return s, nil, versionOf(t, s, 0)
	}
	c := cacheOf(t, 1, 2)
	if e.cache {
		c.Put(5, 2, 3, 1, true)
		if e.flaw == api.FlawTag {
			c.Put(10, 2, 3, 1, true)
		}
	}
	return s, c, checkOf(t, s, 0, c, 2, 3, e.action)
}

// Each step is just one access; behind the last one nothing is done, with the cache neither.
func TestEachEnding(t *testing.T) {
	for _, e := range endings() {
		s, c, x := e.ready(t)
		wantRun(t, s.Memory, x, 100, e.accesses)
		wantTold(t, s.Memory, x, 100+e.point, e.answer)
		if c != nil {
			was := c.Stats()
			wantOver(t, s.Memory, x)
			if c.Stats() != was {
				t.Errorf("%s: behind the last step the cache has %+v, ahead of it %+v", e.what, c.Stats(), was)
			}
		}
		if t.Failed() {
			t.Fatal(e.what)
		}
	}
}

// Moments are any ints, in any order; they make no difference but to the point.
func TestAnyMoments(t *testing.T) {
	moments := []int{math.MinInt, math.MinInt + 1, -2, -1, 0, 1, 1 << 32, math.MaxInt - 1, math.MaxInt}
	for _, e := range endings() {
		list := strings.Fields(e.accesses)
		for _, first := range moments {
			for _, then := range moments {
				s, _, x := e.ready(t)
				for i, access := range list {
					now := then
					if i == e.point {
						now = first
					}
					wantStep(t, s.Memory, x, now, i == len(list)-1, access)
				}
				wantTold(t, s.Memory, x, first, e.answer)
				if t.Failed() {
					t.Fatalf("%s: the moments %d and %d", e.what, first, then)
				}
			}
		}
	}
}

// A machine that has ended leaves the slot to whoever comes.
func TestBehindTheLastStepTheSlotIsAnothers(t *testing.T) {
	for _, e := range endings() {
		s, _, x := e.ready(t)
		wantRun(t, s.Memory, x, 0, e.accesses)
		next, code := s.Slots.Enter(0)
		if code != api.OK {
			t.Fatal(code)
		}
		for next.Step(); !next.Step(); {
		}
		wantOver(t, s.Memory, x)
		if words := allWords(t, s.Memory); words[slotsAt] != 1 {
			t.Errorf("%s: the slot of the next section holds %d", e.what, words[slotsAt])
		}
	}
}

// Machines of different kinds take turns, each with its own next step.
func TestStepsInTurn(t *testing.T) {
	for _, a := range endings() {
		for _, b := range endings() {
			if a.flaw != b.flaw {
				continue
			}
			s, _, x := a.ready(t)
			r, _, y := b.ready(t)
			left, right := strings.Fields(a.accesses), strings.Fields(b.accesses)
			for now := range max(len(left), len(right)) {
				if now < len(left) {
					wantStep(t, s.Memory, x, now, now == len(left)-1, left[now])
				}
				if now < len(right) {
					wantStep(t, r.Memory, y, -now, now == len(right)-1, right[now])
				}
			}
			wantTold(t, s.Memory, x, a.point, a.answer)
			wantTold(t, r.Memory, y, -b.point, b.answer)
			if t.Failed() {
				t.Fatalf("%s, %s", a.what, b.what)
			}
		}
	}
}
