package diff

import (
	"iter"

	"gatehouse/api"
	"gatehouse/mean"
)

// relation is what a policy allows: in its order to be gone over, and as a set to be asked.
type relation struct {
	triples []api.Triple
	set     map[api.Triple]struct{}
}

func relationOf(p api.Policy) relation {
	triples := mean.Relation(p)
	set := make(map[api.Triple]struct{}, len(triples))
	for _, t := range triples {
		set[t] = struct{}{}
	}
	return relation{triples, set}
}

func (r relation) has(t api.Triple) bool {
	_, has := r.set[t]
	return has
}

// without goes over the triples that the other relation has not.
func (r relation) without(other relation) iter.Seq[api.Triple] {
	return func(yield func(api.Triple) bool) {
		for _, t := range r.triples {
			if !other.has(t) && !yield(t) {
				return
			}
		}
	}
}
