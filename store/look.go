package store

import (
	"gatehouse/api"
	"gatehouse/reader"
	"gatehouse/writer"
)

// look sees what a task's step has done.
func (s *Store) look(t *task, last bool) {
	if m, writes := t.machine.(*writer.Machine); writes {
		s.follow(m)
		last = last || s.endsEarly(m)
	}
	e := &s.events[t.event]
	if e.Ended != noMoment { // it ended early: what is left of its steps counts no more
		return
	}
	e.Steps++
	if last {
		e.Ended = s.now()
	}
	s.tell(t, e)
}

// follow sees what a write's step has done to the versions. A refused write's point has passed when it is known.
func (s *Store) follow(m *writer.Machine) {
	o, now := m.Outcome(), s.now()
	if m.Point() == now {
		s.publishes(api.Version{Number: o.Version, Addr: o.Page, Size: o.Size, Point: now, Gone: noMoment, Policy: s.writers.Book[o.Page]})
	}
	if m.Freed() == now && s.fewer(s.live()) { // else the arena has refused it
		s.givesBack(o.Old)
	}
}

func published(m *writer.Machine) bool { return m.Outcome().Version > 0 }

func (s *Store) endsEarly(m *writer.Machine) bool {
	return s.writers.Flaw == api.FlawEarlyDone && published(m)
}

// tell tells an event what is known of its operation behind a step of it.
func (s *Store) tell(t *task, e *api.Event) {
	ended := e.Ended != noMoment
	switch m := t.machine.(type) {
	case *refusal:
		e.Code = m.code
	case *claim:
		if ended {
			s.claimed(t, m, e)
		}
	case *release:
		t.slot, t.cache = noSlot, nil
	case *reader.Machine:
		e.Point = m.Point()
		if ended {
			answered(m.Answer(), e)
		}
	case *writer.Machine:
		if ended || published(m) {
			e.Point = m.Point()
		}
		if ended {
			e.Code, e.Version = m.Outcome().Code, m.Outcome().Version
		}
	}
}

func (s *Store) claimed(t *task, c *claim, e *api.Event) {
	if !c.had {
		e.Code = api.ErrSlots
		return
	}
	t.slot, t.cache = c.slot, s.cache()
	e.Version = c.slot
}

func answered(a reader.Answer, e *api.Event) {
	e.Allowed, e.Hit, e.Broken, e.Version = a.Allowed, a.Hit, a.Broken, a.Version
}
