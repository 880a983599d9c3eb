package judge_test

import (
	"math"
	"slices"
	"testing"

	"gatehouse/api"
	"gatehouse/judge"
)

// 27.5: revoked is revoked.

// Checks that begin behind the revoke's end, and are answered yes.
func TestRevokedStaysSo(t *testing.T) {
	wantRows(t, judge.Revoked, []row{
		{"as they are", func(r *api.Run) {}, true},
		{"yes behind the end", func(r *api.Run) { r.Events[late].Allowed = true }, false},
		{"yes, begun at the end", func(r *api.Run) { r.Events[late].Allowed, r.Events[late].Began = true, 9 }, true},
		{"yes, begun next to the end", func(r *api.Run) { r.Events[late].Allowed, r.Events[late].Began = true, 10 }, false},
		{"yes, in progress", func(r *api.Run) { r.Events[late].Allowed, r.Events[late].Ended = true, -1 }, true},
		{"yes, refused", func(r *api.Run) { r.Events[late].Allowed, r.Events[late].Code = true, api.ErrSlot }, true},
		{"yes, of another triple", func(r *api.Run) { r.Events[late].Allowed, r.Events[late].Number = true, 4 }, true},
		{"yes, of no operation", func(r *api.Run) { r.Events[late].Allowed, r.Events[late].Number = true, 44 }, true},
		{"yes, and it was no check", func(r *api.Run) { r.Events[asked].Allowed, r.Events[asked].Number = true, 1 }, true},
		{"its number is not asked", func(r *api.Run) { r.Events[late].Version, r.Events[late].Broken = 9, true }, true},
		{"its point need not lie within", func(r *api.Run) { r.Events[late].Allowed, r.Events[late].Point = true, 25 }, true},
		{"its point at the point of what allows it", func(r *api.Run) { r.Events[again].Point = 24 }, false},
		{"its point behind that", func(r *api.Run) { r.Events[again].Point = 25 }, true},
		{"what allows it was put there at the revoke's point", func(r *api.Run) {
			r.Versions = append(r.Versions, api.Version{Point: 4, Policy: allowing("x")})
			r.Versions[2].Policy = allowing("y")
		}, false},
		{"next to the revoke's point", func(r *api.Run) {
			r.Versions = append(r.Versions, api.Version{Point: 5, Policy: allowing("x")})
			r.Versions[2].Policy = allowing("y")
		}, true},
		{"what was put there allows it not", func(r *api.Run) { r.Versions[2].Policy = allowing("y") }, false},
		{"it allows another triple alone", func(r *api.Run) { r.Versions[2].Policy = allowing("yz") }, false},
		{"it is not the version that counted", func(r *api.Run) {
			r.Versions = append(r.Versions, api.Version{Point: 25, Policy: allowing("y")})
		}, true},
		{"two that do not allow it behind the one that does", func(r *api.Run) {
			r.Versions = append(r.Versions, api.Version{Point: 25}, api.Version{Point: 25, Policy: allowing("z")})
		}, true},
		{"it is one of two of its point", func(r *api.Run) {
			r.Versions = append(r.Versions, api.Version{Point: 24, Policy: allowing("x")})
			r.Versions[2].Policy = allowing("y")
		}, true},
		{"it was put there behind the check's point", func(r *api.Run) { r.Versions[2].Point = 26 }, false},
		{"the first of two checks is not allowed so", func(r *api.Run) {
			r.Events = slices.Insert(r.Events, again, r.Events[again])
			r.Events[again].Point = 20
		}, false},
		{"the second of two checks is not allowed so", func(r *api.Run) {
			r.Events = slices.Insert(r.Events, again, r.Events[again])
			r.Events[again+1].Point = 20
		}, false},
		{"a check with no point", func(r *api.Run) { r.Events[again].Point = -1 }, false},
		{"of the first version, where the revoke's point is ahead", func(r *api.Run) {
			r.Versions = []api.Version{{Point: -5, Policy: allowing("xy")}, {Point: -4, Policy: allowing("y")}, {Point: -1, Policy: allowing("xy")}}
			r.Events[revoked].Point = -4
		}, true},
	})
}

// Reads whose point is ahead of the revoke's.
func TestARevokeWaitsForReads(t *testing.T) {
	wantRows(t, judge.Revoked, []row{
		{"ended ahead of the revoke's end", func(r *api.Run) { r.Events[early].Ended = 8 }, true},
		{"ended with it", func(r *api.Run) { r.Events[early].Ended = 9 }, false},
		{"ended behind it", func(r *api.Run) { r.Events[early].Ended = 10 }, false},
		{"in progress", func(r *api.Run) { r.Events[early].Ended = -1 }, false},
		{"in progress, told otherwise", func(r *api.Run) { r.Events[early].Ended = -7 }, false},
		{"ended at 0", func(r *api.Run) { r.Events[early].Ended = 0 }, true},
		{"in progress, and looked with the revoke", func(r *api.Run) { r.Events[early].Ended, r.Events[early].Point = -1, 4 }, true},
		{"in progress, and looked next ahead of it", func(r *api.Run) { r.Events[early].Ended, r.Events[early].Point = -1, 3 }, false},
		{"in progress, and looked at 0", func(r *api.Run) { r.Events[early].Ended, r.Events[early].Point = -1, 0 }, false},
		{"in progress, and has not looked", func(r *api.Run) { r.Events[early].Ended, r.Events[early].Point = -1, -1 }, true},
		{"a version is a read too", func(r *api.Run) { r.Events[early].Kind, r.Events[early].Ended = api.OpVersion, 9 }, false},
		{"a version in progress", func(r *api.Run) { r.Events[early].Kind, r.Events[early].Ended = api.OpVersion, -1 }, false},
		{"a read of another triple", func(r *api.Run) { r.Events[early].Number, r.Events[early].Ended = 4, 9 }, false},
		{"a read that was answered no", func(r *api.Run) { r.Events[early].Allowed, r.Events[early].Ended = false, 9 }, false},
		{"a refused read with a point", func(r *api.Run) { r.Events[early].Code, r.Events[early].Ended = api.ErrSlot, 9 }, false},
		{"a write is no read", func(r *api.Run) { r.Events[early].Kind, r.Events[early].Ended = api.OpApply, 9 }, true},
		{"a register is no read", func(r *api.Run) { r.Events[other].Point, r.Events[other].Ended = 2, 37 }, true},
		{"a read of a later operation in the list", func(r *api.Run) { r.Events[open].Point = 3 }, false},
	})
}

// The policies ahead of the revoke and behind it.
func TestARevokeTakesOutItsTriple(t *testing.T) {
	without := func(p api.Policy, t api.Triple) api.Policy {
		p.Excepts = append(p.Excepts, t)
		return p
	}
	turned := allowing("yz")
	slices.Reverse(turned.Actions)
	wantRows(t, judge.Revoked, []row{
		{"by an except", func(r *api.Run) { r.Versions[1].Policy = without(allowing("xy"), on("x")) }, true},
		{"it is still there", func(r *api.Run) { r.Versions[1].Policy = allowing("xy") }, false},
		{"another one is gone too", func(r *api.Run) { r.Versions[1].Policy = allowing("") }, false},
		{"another one is gone instead", func(r *api.Run) { r.Versions[1].Policy = allowing("x") }, false},
		{"another one has come", func(r *api.Run) { r.Versions[1].Policy = allowing("yz") }, false},
		{"it was not there", func(r *api.Run) { r.Versions[0].Policy = allowing("y") }, true},
		{"it was not there, and another one is gone", func(r *api.Run) { r.Versions[0].Policy = allowing("yz") }, false},
		{"nothing was there, and nothing is", func(r *api.Run) { r.Versions[0].Policy, r.Versions[1].Policy = api.Policy{}, allowing("") }, true},
		{"the same set in another order", func(r *api.Run) { r.Versions[0].Policy, r.Versions[1].Policy = allowing("xyz"), turned }, false},
		{"the same set in one order", func(r *api.Run) {
			r.Versions[0].Policy, r.Versions[1].Policy = without(turned, on("x")), turned
		}, true},
		{"it has no version: none counts at its point", func(r *api.Run) { r.Versions = r.Versions[1:] }, false},
		{"no version has its point", func(r *api.Run) { r.Versions[1].Point = 5 }, false},
		{"no version at all", func(r *api.Run) { r.Versions = nil }, false},
		{"its version is the one with the greatest point ahead", func(r *api.Run) {
			r.Versions = append(r.Versions, api.Version{Point: 3, Policy: allowing("xyz")})
			r.Versions[1].Policy = allowing("yz")
		}, true},
		{"not the last in the list", func(r *api.Run) {
			r.Versions = append(r.Versions, api.Version{Point: -2, Policy: allowing("xyz")})
		}, true},
		{"of several with that point the first one", func(r *api.Run) {
			r.Versions = append(r.Versions, api.Version{Point: -1, Policy: allowing("xyz")})
		}, true},
		{"likewise", func(r *api.Run) {
			r.Versions = slices.Insert(r.Versions, 0, api.Version{Point: -1, Policy: allowing("xyz")})
		}, false},
		{"of several with its own point the first one", func(r *api.Run) {
			r.Versions = append(r.Versions, api.Version{Point: 4, Policy: allowing("xyz")})
		}, true},
		{"likewise, turned", func(r *api.Run) {
			r.Versions = slices.Insert(r.Versions, 0, api.Version{Point: 4, Policy: allowing("xyz")})
		}, false},
		{"the triple of another operation", func(r *api.Run) { r.Events[revoked].Number = 3 }, false},
		{"the triple of none: the relation stays", func(r *api.Run) { r.Events[revoked].Number = 33 }, false},
		{"likewise, and it stays", func(r *api.Run) { r.Events[revoked].Number, r.Versions[1].Policy = 33, allowing("xy") }, true},
		{"the number is not asked", func(r *api.Run) { r.Events[revoked].Version, r.Versions[1].Number = 9, 8 }, true},
	})
}

// Of which events all this is asked.
func TestWhichRevokes(t *testing.T) {
	spoil := func(r *api.Run) {
		r.Events[late].Allowed, r.Events[early].Ended, r.Versions[1].Policy = true, -1, allowing("xyz")
	}
	wantRows(t, judge.Revoked, []row{
		{"a revoke that went well", spoil, false},
		{"one in progress", func(r *api.Run) { spoil(r); r.Events[revoked].Ended = -1 }, true},
		{"one that failed", func(r *api.Run) { spoil(r); r.Events[revoked].Code = api.ErrRoom }, true},
		{"an apply", func(r *api.Run) { spoil(r); r.Events[revoked].Kind = api.OpApply }, true},
		{"an update", func(r *api.Run) { spoil(r); r.Events[revoked].Kind = api.OpUpdate }, true},
		{"none", func(r *api.Run) { spoil(r); r.Events = slices.Delete(r.Events, revoked, revoked+1) }, true},
		{"the last of two", func(r *api.Run) {
			r.Events[begun].Ended, r.Events[begun].Point = 50, 44
			r.Versions = append(r.Versions, api.Version{Number: 6, Point: 44, Policy: allowing("xy")})
		}, false},
		{"the last of two, and it is right", func(r *api.Run) {
			r.Events[begun].Ended, r.Events[begun].Point, r.Events[open].Ended = 50, 44, 45
			r.Versions = append(r.Versions, api.Version{Number: 6, Point: 44, Policy: allowing("x")})
		}, true},
		{"the last of two, and a read still goes on", func(r *api.Run) {
			r.Events[begun].Ended, r.Events[begun].Point = 50, 44
			r.Versions = append(r.Versions, api.Version{Number: 6, Point: 44, Policy: allowing("x")})
		}, false},
	})
}

// Many revokes, checks and versions are asked in a moment.
func TestManyRevokes(t *testing.T) {
	const n = 3000
	tasks := [][]api.Op{{revoke("x"), {Kind: api.OpApply}, check("x")}}
	r := api.Run{Versions: []api.Version{{Point: -1, Policy: allowing("x")}}}
	for i := range n {
		policy := allowing("")
		if i == n-1 {
			policy = allowing("x")
		}
		r.Versions = append(r.Versions, api.Version{Number: i + 1, Point: 10 * i, Policy: policy})
		e := api.Event{Kind: api.OpRevoke, Began: 10 * i, Ended: 10*i + 5, Point: 10 * i, Version: i + 1}
		if i == n-1 {
			e.Kind, e.Number = api.OpApply, 1
		}
		r.Events = append(r.Events, e)
	}
	for i := range n {
		r.Events = append(r.Events, api.Event{Number: 2, Kind: api.OpCheck, Began: 10*n + i, Ended: 10*n + i, Point: 10*n + i, Allowed: true, Version: n})
	}
	if !judge.Revoked(tasks, r) || !judge.Answers(tasks, r) {
		t.Error("what was allowed again was not")
	}
	r.Versions[n].Policy = allowing("y")
	if judge.Revoked(tasks, r) {
		t.Error("what was revoked came back")
	}
}

// The moments' ends.
func TestRevokedAtTheEnds(t *testing.T) {
	tasks := [][]api.Op{{revoke("x"), check("x")}}
	r := api.Run{
		Events: []api.Event{
			{Kind: api.OpRevoke, Began: 0, Ended: math.MaxInt - 1, Point: math.MaxInt - 3, Version: 2},
			{Number: 1, Kind: api.OpCheck, Began: math.MaxInt, Ended: math.MaxInt, Point: math.MaxInt, Allowed: true, Version: 3},
		},
		Versions: []api.Version{{Number: 1, Point: math.MinInt, Policy: allowing("x")}, {Number: 2, Point: math.MaxInt - 3, Policy: allowing("")}, {Number: 3, Point: math.MaxInt - 1, Policy: allowing("x")}},
	}
	if !judge.Revoked(tasks, r) {
		t.Error("it was allowed again")
	}
	r.Versions[2].Point = math.MaxInt
	if judge.Revoked(tasks, r) {
		t.Error("it was not allowed again ahead of the check's point")
	}
}
