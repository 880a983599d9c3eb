package reach

// line is the list that breadth-first makes, as far as it is made.
type line[T comparable] struct {
	things []T
	stands map[T]struct{}
}

// put puts behind the list those that do not stand there yet.
func (l *line[T]) put(things []T) {
	for _, thing := range things {
		if l.isNew(thing) {
			l.things = append(l.things, thing)
		}
	}
}

// isNew notes the thing. An interface may hold what Go can't compare, and the map panics at it: such a thing is the same as none, so it is new each time, as a float that is no number is.
func (l *line[T]) isNew(thing T) (yes bool) {
	defer func() {
		if recover() != nil {
			yes = true
		}
	}()
	if _, stands := l.stands[thing]; stands {
		return false
	}
	l.stands[thing] = struct{}{}
	return true
}
