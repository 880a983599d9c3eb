package judge

import (
	"gatehouse/api"
	"gatehouse/mean"
)

// answers is the promise W1: each answer is the one at its point.
func (v *evidence) answers() bool {
	if !inARow(v.Versions) {
		return false
	}
	for _, e := range v.Events {
		if !wentWell(e) {
			continue
		}
		if isRead(e) && !v.answered(e) || isWrite(e) && !v.hasPut(e) {
			return false
		}
	}
	return true
}

// inARow says whether versions follow one another, by their numbers and in time.
func inARow(versions []api.Version) bool {
	for i := 1; i < len(versions); i++ {
		ahead, x := versions[i-1], versions[i]
		if x.Number != ahead.Number+1 || x.Point <= ahead.Point {
			return false
		}
	}
	return true
}

// answered says whether a read was answered by the version that counted at its point.
func (v *evidence) answered(e api.Event) bool {
	x, there := v.counting(e.Point)
	if e.Broken || !there || e.Version != x.Number {
		return false
	}
	return e.Kind != api.OpCheck || e.Allowed == mean.Allows(x.Policy, v.triple(e))
}

// hasPut says whether there is the version that a write tells. (Versions that follow one another have each its own point.)
func (v *evidence) hasPut(e api.Event) bool {
	x, there := v.putAt(e.Point)
	return there && e.Version == x.Number
}
