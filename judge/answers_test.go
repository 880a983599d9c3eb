package judge_test

import (
	"math"
	"testing"

	"gatehouse/api"
	"gatehouse/judge"
)

// 27.4: each answer is right at its point.

func TestAnswersOfVersions(t *testing.T) {
	wantRows(t, judge.Answers, []row{
		{"as they are", func(r *api.Run) {}, true},
		{"the second number too great", func(r *api.Run) { r.Versions[1].Number = 5 }, false},
		{"the second number as the first one", func(r *api.Run) { r.Versions[1].Number = 3 }, false},
		{"the last number too great, and told so", func(r *api.Run) {
			r.Versions[2].Number, r.Events[restored].Version, r.Events[again].Version = 6, 6, 6
		}, false},
		{"all numbers less by 4", func(r *api.Run) {
			for i := range r.Versions {
				r.Versions[i].Number -= 4
			}
			for i := range r.Events {
				r.Events[i].Version -= 4
			}
		}, true},
		{"two of one point", func(r *api.Run) { r.Versions[1].Point = -1; r.Events[revoked].Point = -1 }, false},
		{"points that fall", func(r *api.Run) { r.Versions[0].Point = 5 }, false},
		{"the last point as the one ahead", func(r *api.Run) { r.Versions[2].Point = 4 }, false},
		{"one version less", func(r *api.Run) { r.Versions = r.Versions[:2] }, false},
		{"one version more", func(r *api.Run) {
			r.Versions = append(r.Versions, api.Version{Number: 6, Point: 38, Gone: -1})
		}, true},
		{"one version more, with no number", func(r *api.Run) { r.Versions = append(r.Versions, api.Version{Point: 38, Gone: -1}) }, false},
		{"sizes, addresses and ends count for nothing", func(r *api.Run) {
			r.Versions[0].Size, r.Versions[1].Addr, r.Versions[2].Gone = -1, -2, 0
		}, true},
	})
}

func TestAnswersOfChecks(t *testing.T) {
	wantRows(t, judge.Answers, []row{
		{"yes for no", func(r *api.Run) { r.Events[late].Allowed = true }, false},
		{"no for yes", func(r *api.Run) { r.Events[early].Allowed = false }, false},
		{"another version, ahead", func(r *api.Run) { r.Events[late].Version = 3 }, false},
		{"another version, behind", func(r *api.Run) { r.Events[early].Version = 4 }, false},
		{"no version told", func(r *api.Run) { r.Events[early].Version = 0 }, false},
		{"broken", func(r *api.Run) { r.Events[early].Broken = true }, false},
		{"broken, and no", func(r *api.Run) { r.Events[late].Broken = true }, false},
		{"a hit is as good", func(r *api.Run) { r.Events[early].Hit = true }, true},
		{"the point behind the revoke's", func(r *api.Run) { r.Events[early].Point = 5 }, false},
		{"the point at the revoke's: its version does not count yet", func(r *api.Run) { r.Events[early].Point = 4 }, true},
		{"the point at 0", func(r *api.Run) { r.Events[early].Point = 0 }, true},
		{"the point at -1: no version counts", func(r *api.Run) { r.Events[early].Point = -1 }, false},
		{"the point at -1, and an earlier version", func(r *api.Run) { r.Versions[0].Point, r.Events[early].Point = -2, -1 }, true},
		{"the point far behind, of its version", func(r *api.Run) { r.Events[again].Point = math.MaxInt }, true},
		{"the point need not lie within", func(r *api.Run) { r.Events[early].Began, r.Events[early].Ended = 50, 51 }, true},
		{"another task's triple: none", func(r *api.Run) { r.Events[early].Task = 7 }, false},
		{"another number's triple", func(r *api.Run) { r.Events[late].Number = 4 }, false},
		{"the number of no operation, answered no", func(r *api.Run) { r.Events[late].Number = 77 }, true},
		{"in progress, whatever it tells", func(r *api.Run) { r.Events[early].Ended, r.Events[early].Broken = -1, true }, true},
		{"ended far below 0", func(r *api.Run) { r.Events[early].Ended, r.Events[early].Version = -9, 8 }, true},
		{"ended at 0", func(r *api.Run) { r.Events[early].Ended, r.Events[early].Version = 0, 8 }, false},
		{"refused, whatever it tells", func(r *api.Run) { r.Events[early].Code, r.Events[early].Version = api.ErrSlot, 0 }, true},
		{"not refused, though its code is below 0", func(r *api.Run) { r.Events[late].Code, r.Events[late].Allowed = -1, true }, true},
		{"a check that has no version", func(r *api.Run) {
			r.Versions, r.Events = nil, []api.Event{{Kind: api.OpCheck, Point: 5}}
		}, false},
		{"a check in progress that has none", func(r *api.Run) {
			r.Versions, r.Events = nil, []api.Event{{Kind: api.OpCheck, Point: 5, Ended: -1}}
		}, true},
	})
}

func TestAnswersOfVersionsAsked(t *testing.T) {
	wantRows(t, judge.Answers, []row{
		{"another version", func(r *api.Run) { r.Events[asked].Version = 3 }, false},
		{"another version, behind", func(r *api.Run) { r.Events[asked].Version = 5 }, false},
		{"broken", func(r *api.Run) { r.Events[asked].Broken = true }, false},
		{"what is allowed counts for nothing", func(r *api.Run) { r.Events[asked].Allowed = true }, true},
		{"in progress", func(r *api.Run) { r.Events[asked].Ended, r.Events[asked].Version = -1, 0 }, true},
		{"refused", func(r *api.Run) { r.Events[asked].Code, r.Events[asked].Version = api.ErrSlot, 0 }, true},
		{"no version counts", func(r *api.Run) { r.Events[asked].Point = -1 }, false},
		{"no version counts, and none is told", func(r *api.Run) { r.Events[asked].Point, r.Events[asked].Version = -1, 0 }, false},
	})
}

func TestAnswersOfWrites(t *testing.T) {
	wantRows(t, judge.Answers, []row{
		{"another number", func(r *api.Run) { r.Events[revoked].Version = 3 }, false},
		{"another point", func(r *api.Run) { r.Events[revoked].Point = 5 }, false},
		{"another version's point and number", func(r *api.Run) { r.Events[restored].Point, r.Events[restored].Version = 4, 4 }, true},
		{"the point of one and the number of another", func(r *api.Run) { r.Events[restored].Version = 4 }, false},
		{"the first version's", func(r *api.Run) { r.Events[restored].Point, r.Events[restored].Version = -1, 3 }, true},
		{"in progress, without a version", func(r *api.Run) { r.Events[restored].Ended, r.Events[restored].Version = -1, 0 }, true},
		{"refused, without a version", func(r *api.Run) { r.Events[refused].Point, r.Events[refused].Version = 77, 77 }, true},
		{"not refused, without a version", func(r *api.Run) { r.Events[refused].Code = api.OK }, false},
		{"broken counts for nothing", func(r *api.Run) { r.Events[restored].Broken, r.Events[restored].Allowed = true, true }, true},
		{"an update is asked too", func(r *api.Run) { r.Events[restored].Kind = api.OpUpdate; r.Events[restored].Version = 6 }, false},
		{"an apply is asked too", func(r *api.Run) { r.Events[restored].Version = 6 }, false},
		{"a register is not asked", func(r *api.Run) { r.Events[other].Point = 3 }, true},
		{"an operation of no kind is not asked", func(r *api.Run) { r.Events[other].Kind = 9 }, true},
		{"without any version", func(r *api.Run) { r.Versions, r.Events = nil, []api.Event{{Kind: api.OpApply}} }, false},
	})
	if r := (api.Run{Events: []api.Event{{Kind: api.OpApply, Version: 5, Point: 2}}, Versions: []api.Version{{Number: 4, Point: 2}, {Number: 5, Point: 2}}}); judge.Answers(nil, r) {
		t.Error("two versions of one point")
	}
}

// Numbers wrap round (R7).
func TestNumbersWrapRound(t *testing.T) {
	for _, x := range []struct {
		first, second int
		want          bool
	}{{math.MaxInt, math.MinInt, true}, {math.MaxInt, math.MaxInt, false}, {math.MinInt, math.MaxInt, false}, {math.MaxInt - 1, math.MaxInt, true}, {-1, 0, true}, {0, -1, false}} {
		r := api.Run{Versions: []api.Version{{Number: x.first, Point: math.MinInt}, {Number: x.second, Point: math.MaxInt}}}
		if got := judge.Answers(nil, r); got != x.want {
			t.Errorf("%d, %d: %v", x.first, x.second, got)
		}
	}
}
