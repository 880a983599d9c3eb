package avc

// triple is a subject, an object and an action.
type triple [3]int

// place holds a decision. The empty one is free; held tells a decision from it of which all else is zero.
type place struct {
	held    bool
	triple  triple
	tag     int
	allowed bool
	marked  bool
}

func (p *place) free() bool { return *p == place{} }

// set is places, and the hand that points at one of them.
type set struct {
	places []place
	hand   int
}

// find is the place that holds a triple, with whatever tag; nil, if none does.
func (s *set) find(t triple) *place {
	for i := range s.places {
		if p := &s.places[i]; !p.free() && p.triple == t {
			return p
		}
	}
	return nil
}

// room is the first free place; nil, if there is none.
func (s *set) room() *place {
	for i := range s.places {
		if p := &s.places[i]; p.free() {
			return p
		}
	}
	return nil
}

// turn is the place that the hand finds. It comes to an end: a mark that is passed is taken away, so that one round clears them all.
func (s *set) turn() *place {
	p := s.pass()
	for p.marked {
		p.marked = false
		p = s.pass()
	}
	return p
}

// pass is the place that the hand points at; it points at the next one from then on.
func (s *set) pass() *place {
	p := &s.places[s.hand]
	s.hand = (s.hand + 1) % len(s.places)
	return p
}

// held is how many places are not free.
func (s *set) held() int {
	n := 0
	for i := range s.places {
		if !s.places[i].free() {
			n++
		}
	}
	return n
}
