package bits

func bitOf(i int) uint64 { return 1 << (i % wordBits) }

func (s *Set) fits(i int) bool { return i >= 0 && i < s.room }

func (s *Set) quads() int { return len(s.words) / quadWords }

// quad is the four words from 4k on. A set that is not there has nothing, and behind a set's last words there is nothing either: so sets of other rooms, and none, need no care where two are laid together.
func (s *Set) quad(k int) [quadWords]uint64 {
	if s == nil || k >= s.quads() {
		return [quadWords]uint64{}
	}
	return [quadWords]uint64(s.words[k*quadWords : (k+1)*quadWords])
}

// change lays the words of another set on those of this one, and says whether one became another.
func (s *Set) change(o *Set, lay func(own, other uint64) uint64) bool {
	changed := false
	for k := range s.quads() {
		old, others := s.quad(k), o.quad(k)
		for i, own := range old {
			w := k*quadWords + i
			s.words[w] = lay(own, others[i]) & s.reached(w)
			changed = changed || s.words[w] != own
		}
	}
	return changed
}

// reached is the bits of the word w that the room reaches: another set may have more.
func (s *Set) reached(w int) uint64 {
	return 1<<max(s.room-w*wordBits, 0) - 1 // a shift by 64 or more leaves 0, so that less 1 is the whole word
}
