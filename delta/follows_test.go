package delta_test

import (
	"slices"
	"testing"

	"gatehouse/api"
	"gatehouse/delta"
	"gatehouse/mean"
)

// The relation of what Revoke answers is the policy's without the triple, and nothing else.
func TestTheRelationBehindARevoke(t *testing.T) {
	d := dice(1)
	gone := 0
	for range 400 {
		p := d.policy(t)
		before := mean.Relation(p)
		for _, s := range p.Subjects {
			for _, o := range p.Objects {
				for _, a := range p.Actions {
					x := api.Triple{Subject: s.Name, Object: o, Action: a}
					q, e := delta.Revoke(p, x)
					want := slices.DeleteFunc(slices.Clone(before), func(y api.Triple) bool { return y == x })
					if got := mean.Relation(q); e != api.OK || !slices.Equal(got, want) {
						t.Fatalf("Revoke(%v) of %+v leaves %v, %d, want %v", x, p, got, e, want)
					}
					gone += len(before) - len(want)
				}
			}
		}
	}
	if gone < 100 {
		t.Errorf("%d triples were taken out", gone)
	}
}

// inverse is what takes out what a delta puts in.
func inverse(p api.Policy, d api.Delta) (api.Delta, bool) {
	switch {
	case d.Kind == api.DeltaAllow:
		return dropping(len(p.Rules) + 1), true
	case d.Kind >= api.DeltaMember && d.Kind <= api.DeltaWithin:
		return api.Delta{Kind: d.Kind + 4, Pair: d.Pair}, true
	case d.Kind == api.DeltaExcept:
		return api.Delta{Kind: api.DeltaRestore, Triple: d.Triple}, true
	}
	return d, false
}

func TestPutInAndTakenOutAgain(t *testing.T) {
	d := dice(2)
	kinds := map[int8]int{}
	for range 2000 {
		p := d.policy(t)
		x := d.delta()
		back, ok := inverse(p, x)
		if !ok {
			continue
		}
		if q, e := delta.One(p, x); e == api.OK {
			wantOne(t, q, back, p)
			wantApplied(t, p, []api.Delta{x, back}, p)
			kinds[x.Kind]++
		}
	}
	for _, kind := range []int8{1, 7, 8, 9, 10, 15} {
		if kinds[kind] < 10 {
			t.Errorf("%d deltas of the kind %d", kinds[kind], kind)
		}
	}
}

// goodList is a list of which each delta goes well, and the policy that it leaves.
func (d *dice) goodList(t *testing.T, p api.Policy, n int) ([]api.Delta, api.Policy) {
	t.Helper()
	var l []api.Delta
	for len(l) < n {
		x := d.delta()
		if q, e := delta.One(p, x); e == api.OK {
			if fault := code(q); fault != api.OK {
				t.Fatalf("One(%+v) of %+v is a policy with the fault %d", x, p, fault)
			}
			l, p = append(l, x), q
		}
	}
	return l, p
}

func TestTwoListsAreOne(t *testing.T) {
	d := dice(3)
	for range 200 {
		p := d.policy(t)
		first, q := d.goodList(t, p, d.throw(20))
		second, r := d.goodList(t, q, d.throw(20))
		wantApplied(t, p, first, q)
		wantApplied(t, q, second, r)
		wantApplied(t, p, slices.Concat(first, second), r)
		wantStopped(t, p, slices.Concat(first, []api.Delta{{}}, second), len(first), api.ErrKind)
	}
}

// They are, as long as there are at most MaxDeltas together.
func TestTwoLongListsAreOne(t *testing.T) {
	p := load(t, small)
	excepted := load(t, small+"except ann on door : open;")
	for first := range 257 {
		if first%2 == 0 {
			wantApplied(t, p, slices.Concat(restoring(first), restoring(256-first)), p)
			wantStopped(t, p, slices.Concat(restoring(first), restoring(257-first)), 0, api.ErrMany)
		} else {
			wantApplied(t, p, slices.Concat(restoring(first), restoring(257 - first)[1:]), p)
			wantApplied(t, p, restoring(first), excepted)
		}
	}
}
