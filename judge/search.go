package judge

import "gatehouse/api"

// set is a set of calls: bit k for the call k.
type set uint16

func (s set) with(k int) set { return s | 1<<k }

func (s set) has(k int) bool { return s>>k&1 == 1 }

// holds says whether all of another set are in it.
func (s set) holds(o set) bool { return o&^s == 0 }

// state is all that counts of the part of an order that is there, for what may come behind it.
type state struct {
	placed set
	held   int // what the register holds: 0 is the first policy, k + 1 that of the call k
}

// search seeks the first right order of at most MaxJudged calls whose moments may be.
type search struct {
	calls   []api.Call
	ended   set
	behind  [api.MaxJudged]set     // of each call: those that ended earlier than it began
	fitting [api.MaxJudged + 1]set // of all that the register may hold: the calls that fit there
	nowhere map[state]struct{}     // from here there is no right order
	order   []int
}

func searchOf(first api.Policy, calls []api.Call) *search {
	s := &search{calls: calls, fitting: [api.MaxJudged + 1]set{fittingTo(first, calls)}, nowhere: map[state]struct{}{}}
	for k, c := range calls {
		if hasEnded(c) {
			s.ended = s.ended.with(k)
		}
		if puts(c) {
			s.fitting[k+1] = fittingTo(c.Policy, calls)
		}
		s.behind[k] = endedAheadOf(c, calls)
	}
	return s
}

func fittingTo(policy api.Policy, calls []api.Call) set {
	var all set
	for k, c := range calls {
		if fits(c, policy) {
			all = all.with(k)
		}
	}
	return all
}

func endedAheadOf(c api.Call, calls []api.Call) set {
	var all set
	for k, other := range calls {
		if hasEnded(other) && other.Ended < c.Began {
			all = all.with(k)
		}
	}
	return all
}

// goOn makes the order right by calls behind those that stand in it, if it can be. What is tried first comes first: nothing more, then the calls by their places.
func (s *search) goOn(at state) bool {
	if at.placed.holds(s.ended) {
		return true
	}
	if _, tried := s.nowhere[at]; tried {
		return false
	}
	for k := range s.calls {
		if s.may(at, k) && s.goOnWith(at, k) {
			return true
		}
	}
	s.nowhere[at] = struct{}{}
	return false
}

// may says whether a call can be the next one.
func (s *search) may(at state, k int) bool {
	return !at.placed.has(k) && at.placed.holds(s.behind[k]) && s.fitting[at.held].has(k)
}

func (s *search) goOnWith(at state, k int) bool {
	at.placed = at.placed.with(k)
	if puts(s.calls[k]) {
		at.held = k + 1
	}
	s.order = append(s.order, k)
	if s.goOn(at) {
		return true
	}
	s.order = s.order[:len(s.order)-1]
	return false
}
