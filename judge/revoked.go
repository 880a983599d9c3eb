package judge

import (
	"slices"

	"gatehouse/api"
	"gatehouse/mean"
)

// revoked is the promise W2: revoked is revoked.
func (v *evidence) revoked() bool {
	for _, e := range v.Events {
		if e.Kind == api.OpRevoke && wentWell(e) && !(v.stayed(e) && v.waited(e) && v.tookOut(e)) {
			return false
		}
	}
	return true
}

// stayed says whether each check that begins behind a revoke's end and is allowed what was revoked had a version for it, put there behind the revoke and ahead of the check. The check with the earliest point speaks for all.
func (v *evidence) stayed(revoke api.Event) bool {
	t := v.triple(revoke)
	some, earliest := false, 0
	for _, e := range v.Events {
		allowed := e.Kind == api.OpCheck && wentWell(e) && e.Allowed
		if !allowed || e.Began <= revoke.Ended || v.triple(e) != t {
			continue
		}
		if !some || e.Point < earliest {
			some, earliest = true, e.Point
		}
	}
	return !some || v.allowedBetween(t, revoke.Point, earliest)
}

// allowedBetween says whether a version with a point between two moments allows a triple. It looks from behind: the version that has answered yes is the last one.
func (v *evidence) allowedBetween(t api.Triple, behind, ahead int) bool {
	for i := v.from(ahead) - 1; i >= 0 && v.byPoint[i].Point > behind; i-- {
		if mean.Allows(v.byPoint[i].Policy, t) {
			return true
		}
	}
	return false
}

// waited says whether each read whose point is ahead of a revoke's has ended ahead of its end.
func (v *evidence) waited(revoke api.Event) bool {
	for _, e := range v.Events {
		early := isRead(e) && e.Point >= 0 && e.Point < revoke.Point
		if early && (e.Ended < 0 || e.Ended >= revoke.Ended) {
			return false
		}
	}
	return true
}

// tookOut says whether a revoke has taken its triple out of the relation, and nothing else.
func (v *evidence) tookOut(revoke api.Event) bool {
	was, counted := v.counting(revoke.Point)
	is, put := v.putAt(revoke.Point)
	if !counted || !put {
		return false
	}
	t := v.triple(revoke)
	left := slices.DeleteFunc(mean.Relation(was.Policy), func(x api.Triple) bool { return x == t })
	return slices.Equal(mean.Relation(is.Policy), left)
}
