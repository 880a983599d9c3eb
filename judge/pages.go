package judge

import (
	"gatehouse/api"
	"gatehouse/store"
)

// unpoisoned is the first half of the promise W3: what is read was not given back.
func (v *evidence) unpoisoned() bool {
	for _, x := range v.Trace {
		if x.Kind == api.AccessLoad && !x.Good {
			return false
		}
	}
	for _, e := range v.Events {
		if isRead(e) && e.Point >= 0 && !v.keptItsPage(e) {
			return false
		}
	}
	return true
}

// keptItsPage says whether the page that a read looked at was not given back ahead of its end.
func (v *evidence) keptItsPage(e api.Event) bool {
	x, there := v.counting(e.Point)
	return !there || x.Gone < 0 || e.Ended >= 0 && e.Ended < x.Gone
}

// few is the second half of the promise W3: pages are given back in time.
func (v *evidence) few() bool {
	for i, writes := range v.writesInProgress() {
		if v.Live[i] > 1+writes {
			return false
		}
	}
	for _, e := range v.Events {
		if isWrite(e) && wentWell(e) && !v.gaveBack(e) {
			return false
		}
	}
	return true
}

// writesInProgress are how many writes are in progress behind each moment that Live tells of.
func (v *evidence) writesInProgress() []int {
	moments := len(v.Live)
	more := make([]int, moments+1) // of each moment: how many more than at the one ahead
	for _, e := range v.Events {
		from, to := max(e.Began, 0), e.Ended
		if to < 0 || to > moments {
			to = moments
		}
		if isWrite(e) && from < to {
			more[from]++
			more[to]--
		}
	}
	for i := range moments {
		more[i+1] += more[i]
	}
	return more[:moments]
}

// gaveBack says whether the page that a write found went behind its point, up to its end.
func (v *evidence) gaveBack(e api.Event) bool {
	x, there := v.counting(e.Point)
	return !there || x.Gone > e.Point && x.Gone <= e.Ended
}

// quick is the promise W4: readers never wait.
func (v *evidence) quick() bool {
	most := store.CheckSteps(v.largest())
	for _, e := range v.Events {
		if isRead(e) && (e.Steps > most || e.Ended < 0 && e.Steps == most) {
			return false
		}
	}
	return true
}

// largest is how many words the largest page has, of those that have counted and of those that were to.
func (v *evidence) largest() int {
	size := 0
	for _, x := range v.Versions {
		size = max(size, x.Size)
	}
	for _, x := range v.Trace {
		if x.Kind == api.AccessTake {
			size = max(size, x.Value)
		}
	}
	return size
}
