package judge

import (
	"cmp"
	"slices"

	"gatehouse/api"
	"gatehouse/own"
)

// evidence is all that is known of a run, laid out for what is asked of it.
type evidence struct {
	api.Run
	ops     [][]api.Op
	byPoint []api.Version // the run's versions by their points, those of one point as they stand there
}

func evidenceOf(tasks [][]api.Op, r api.Run) *evidence {
	byPoint := slices.Clone(r.Versions)
	slices.SortStableFunc(byPoint, func(a, b api.Version) int { return cmp.Compare(a.Point, b.Point) })
	return &evidence{Run: r, ops: tasks, byPoint: byPoint}
}

// from is how many versions have an earlier point.
func (v *evidence) from(point int) int {
	n, _ := slices.BinarySearchFunc(v.byPoint, point, func(x api.Version, point int) int { return cmp.Compare(x.Point, point) })
	return n
}

// putAt is the version with a point, the first one of several, if there is one.
func (v *evidence) putAt(point int) (api.Version, bool) {
	n := v.from(point)
	if n == len(v.byPoint) || v.byPoint[n].Point != point {
		return api.Version{}, false
	}
	return v.byPoint[n], true
}

// counting is the version that counts at a moment, if there is one.
func (v *evidence) counting(now int) (api.Version, bool) {
	n := v.from(now)
	if n == 0 {
		return api.Version{}, false
	}
	return v.putAt(v.byPoint[n-1].Point)
}

// triple is that of an event's operation, the zero triple if there is no such one.
func (v *evidence) triple(e api.Event) api.Triple {
	if e.Task < 0 || e.Task >= len(v.ops) || e.Number < 0 || e.Number >= len(v.ops[e.Task]) {
		return api.Triple{}
	}
	return v.ops[e.Task][e.Number].Triple
}

func isRead(e api.Event) bool { return e.Kind == api.OpCheck || e.Kind == api.OpVersion }

func isWrite(e api.Event) bool {
	return e.Kind == api.OpUpdate || e.Kind == api.OpApply || e.Kind == api.OpRevoke
}

func wentWell(e api.Event) bool { return e.Ended >= 0 && e.Code == api.OK }

// judged says whether an event is a call of the run's history.
func judged(e api.Event) bool {
	return e.Kind == api.OpCheck && wentWell(e) || isWrite(e) && (e.Ended >= 0 || e.Point >= 0)
}

// call is an event that is judged, in memory of its own.
func (v *evidence) call(e api.Event) api.Call {
	if !isWrite(e) {
		return api.Call{Began: e.Began, Ended: e.Ended, Allowed: e.Allowed, Triple: own.Triple(v.triple(e))}
	}
	c := api.Call{Began: e.Began, Ended: max(e.Ended, inProgress), Write: true, Failed: e.Code != api.OK}
	if x, there := v.putAt(e.Point); there && puts(c) {
		c.Policy = own.Policy(x.Policy)
	}
	return c
}
