package judge_test

import (
	"math"
	"slices"
	"testing"

	"gatehouse/api"
	"gatehouse/judge"
)

// A run by hand that keeps all promises, and 27.3.

func check(action string) api.Op { return api.Op{Kind: api.OpCheck, Triple: on(action)} }

func revoke(action string) api.Op { return api.Op{Kind: api.OpRevoke, Triple: on(action)} }

// The places of the run's events.
const (
	early    = iota // a check ahead of the revoke, and in its time
	revoked         // the revoke of x
	late            // a check behind the revoke
	asked           // a version
	restored        // an apply that allows x again
	again           // a check behind that
	refused         // an update
	open            // a check in progress
	begun           // a revoke in progress
	other           // a register
)

// run has a version for each write that went well: 3, then 4 by the revoke at the moment 4, then 5 by the apply at 24.
func run() ([][]api.Op, api.Run) {
	tasks := [][]api.Op{
		{check("x"), check("x"), {Kind: api.OpVersion}, check("x"), check("y"), {Kind: api.OpRegister}},
		{revoke("x"), {Kind: api.OpApply}, {Kind: api.OpUpdate}, revoke("y")},
	}
	r := api.Run{
		Events: []api.Event{
			early:    {Kind: api.OpCheck, Began: 0, Ended: 5, Point: 2, Steps: 6, Allowed: true, Version: 3},
			revoked:  {Task: 1, Kind: api.OpRevoke, Began: 1, Ended: 9, Point: 4, Steps: 80, Version: 4},
			late:     {Number: 1, Kind: api.OpCheck, Began: 10, Ended: 15, Point: 12, Steps: 6, Version: 4},
			asked:    {Number: 2, Kind: api.OpVersion, Began: 16, Ended: 19, Point: 18, Steps: 4, Version: 4},
			restored: {Task: 1, Number: 1, Kind: api.OpApply, Began: 20, Ended: 29, Point: 24, Steps: 9, Version: 5},
			again:    {Number: 3, Kind: api.OpCheck, Began: 21, Ended: 27, Point: 26, Steps: 7, Allowed: true, Version: 5},
			refused:  {Task: 1, Number: 2, Kind: api.OpUpdate, Began: 30, Ended: 33, Point: 32, Steps: 4, Code: api.ErrSyntax},
			open:     {Number: 4, Kind: api.OpCheck, Began: 31, Ended: -1, Point: 35, Steps: 4},
			begun:    {Task: 1, Number: 3, Kind: api.OpRevoke, Began: 36, Ended: -1, Point: -1, Steps: 2},
			other:    {Number: 5, Kind: api.OpRegister, Began: 37, Ended: 37, Point: -1, Steps: 99, Version: 1},
		},
		Trace: []api.Access{{Kind: api.AccessLoad, Good: true}, {}, {Kind: api.AccessTake, Addr: 20, Value: 9, Good: true}, {Kind: api.AccessSwap}},
		Versions: []api.Version{
			{Number: 3, Size: 8, Point: -1, Gone: 8, Policy: allowing("xy")},
			{Number: 4, Size: 8, Point: 4, Gone: 28, Policy: allowing("y")},
			{Number: 5, Size: 9, Point: 24, Gone: -1, Policy: allowing("xy")},
		},
		Live: slices.Concat(ones(3), twos(5), ones(14), twos(6), ones(12)),
	}
	return tasks, r
}

func ones(n int) []int { return slices.Repeat([]int{1}, n) }

func twos(n int) []int { return slices.Repeat([]int{2}, n) }

// row is a run with something done to it.
type row struct {
	what string
	turn func(r *api.Run)
	want bool
}

// wantRows asks one thing of each row's run.
func wantRows(t *testing.T, ask func(tasks [][]api.Op, r api.Run) bool, rows []row) {
	t.Helper()
	for _, x := range rows {
		tasks, r := run()
		x.turn(&r)
		if got := ask(tasks, r); got != x.want {
			t.Errorf("%s: %v", x.what, got)
		}
		wantReckoned(t, tasks, r)
	}
}

func TestTheRunByHandKeepsAll(t *testing.T) {
	tasks, r := run()
	if len(r.Live) != 40 || r.Live[27] != 2 || r.Live[28] != 1 {
		t.Fatalf("Live is %v", r.Live)
	}
	if b := wantReckoned(t, tasks, r); b != api.BreachNone {
		t.Errorf("Breach = %d", b)
	}
}

// wantCalls asks for calls, and their places.
func wantCalls(t *testing.T, what string, tasks [][]api.Op, r api.Run, want []api.Call, places ...int) {
	t.Helper()
	calls, at := judge.Calls(tasks, r)
	if !alike(calls, want) || !slices.Equal(at, places) {
		t.Errorf("%s: Calls = %+v at %v, want %+v at %v", what, calls, at, want, places)
	}
}

func TestCallsOfARun(t *testing.T) {
	tasks, r := run()
	want := history(t, "y:x:0 5, w:y:1 9, n:x:10 15, w:xy:20 29, y:x:21 27, f::30 33")
	want[5].Policy = api.Policy{}
	wantCalls(t, "the run", tasks, r, want, early, revoked, late, restored, again, refused)
	wantCalls(t, "the zero run", nil, api.Run{}, nil)
	wantCalls(t, "tasks without a run", tasks, api.Run{}, nil)
	wantCalls(t, "a run without events", tasks, api.Run{Versions: r.Versions, Trace: r.Trace, Live: r.Live}, nil)
}

func TestWhichEventsAreCalls(t *testing.T) {
	tasks, _ := run()
	for kind := int8(-1); kind < 10; kind++ {
		for _, ended := range []int{math.MinInt, -2, -1, 0, 7} {
			for _, point := range []int{math.MinInt, -1, 0, 4} {
				for _, code := range []api.Errno{api.OK, api.ErrSlot, -1} {
					e := api.Event{Kind: kind, Began: -3, Ended: ended, Point: point, Steps: 5, Code: code, Allowed: true, Version: 7, Hit: true, Broken: true}
					isCheck := kind == 3 && ended >= 0 && code == api.OK
					isWrite := kind >= 4 && kind <= 6 && (ended >= 0 || point >= 0)
					want := api.Call{Began: -3, Ended: max(-1, ended)}
					if isCheck {
						want.Allowed, want.Triple = true, on("x")
					} else if isWrite {
						want.Write, want.Failed = true, code != api.OK
					}
					if !isCheck && !isWrite {
						wantCalls(t, "none", tasks, api.Run{Events: []api.Event{e}}, nil)
						continue
					}
					wantCalls(t, "one", tasks, api.Run{Events: []api.Event{e}}, []api.Call{want}, 0)
				}
			}
		}
	}
}

// A check's answer is told as it is, also one that makes no sense.
func TestACallsAnswer(t *testing.T) {
	tasks, r := run()
	r = api.Run{Events: []api.Event{{Kind: api.OpCheck, Broken: true}, {Kind: api.OpCheck, Allowed: true}}}
	wantCalls(t, "two checks", tasks, r, history(t, "n:x:0 0, y:x:0 0"), 0, 1)
}

// The policy is that of the first version with the write's point.
func TestTheWritesPolicy(t *testing.T) {
	tasks := [][]api.Op{{revoke("x")}}
	versions := func(policies string, points ...int) []api.Version {
		var l []api.Version
		for i, point := range points {
			l = append(l, api.Version{Number: i, Point: point, Policy: allowing(policies[i : i+1])})
		}
		return l
	}
	for _, x := range []struct {
		what     string
		versions []api.Version
		ended    int
		point    int
		code     api.Errno
		want     string
	}{
		{"the only one", versions("x", 5), 9, 5, api.OK, "x"},
		{"none", nil, 9, 5, api.OK, "-"},
		{"none at that point", versions("xyz", 4, 6, -1), 9, 5, api.OK, "-"},
		{"the first of two", versions("xy", 5, 5), 9, 5, api.OK, "x"},
		{"the first of two, turned", versions("yx", 5, 5), 9, 5, api.OK, "y"},
		{"the first of two, others between", versions("zyzxz", 9, 5, 7, 5, 3), 9, 5, api.OK, "y"},
		{"of points that fall", versions("xyz", 7, 5, 3), 9, 5, api.OK, "y"},
		{"it has failed", versions("x", 5), 9, 5, api.ErrRoom, "-"},
		{"in progress, and its page counts", versions("x", 5), -1, 5, api.OK, "x"},
		{"in progress, of the point 0", versions("x", 0), -1, 0, api.OK, "x"},
		{"it has no point, and the first version has none", versions("x", -1), 9, -1, api.OK, "x"},
		{"it has no point, and no version has none", versions("x", 5), 9, -1, api.OK, "-"},
		{"the greatest point", versions("xy", 5, math.MaxInt), 9, math.MaxInt, api.OK, "y"},
		{"the least point", versions("xy", math.MinInt, 5), 9, math.MinInt, api.OK, "x"},
	} {
		want := api.Call{Began: 2, Ended: x.ended, Write: true, Failed: x.code != api.OK}
		if x.want != "-" {
			want.Policy = allowing(x.want)
		}
		for kind := api.OpUpdate; kind <= api.OpRevoke; kind++ {
			r := api.Run{Events: []api.Event{{Kind: kind, Began: 2, Ended: x.ended, Point: x.point, Code: x.code}}, Versions: x.versions}
			wantCalls(t, x.what, tasks, r, []api.Call{want}, 0)
		}
	}
}

// The triple is that of the operation with the event's number, whatever its kind; or none.
func TestTheTripleOfAnEvent(t *testing.T) {
	tasks := [][]api.Op{{check("x"), revoke("y")}, nil, {{Kind: api.OpUpdate, Triple: on("z")}}}
	names := map[[2]int]string{{0, 0}: "x", {0, 1}: "y", {2, 0}: "z"}
	places := []int{math.MinInt, -2, -1, 0, 1, 2, 3, math.MaxInt}
	for _, task := range places {
		for _, number := range places {
			want := api.Call{}
			if name, there := names[[2]int{task, number}]; there {
				want.Triple = on(name)
			}
			r := api.Run{Events: []api.Event{{Task: task, Number: number, Kind: api.OpCheck}}}
			wantCalls(t, "a check", tasks, r, []api.Call{want}, 0)
			wantCalls(t, "a check of no task", nil, r, []api.Call{{}}, 0)
		}
	}
}

func TestThePlacesOfCalls(t *testing.T) {
	tasks, r := run()
	slices.Reverse(r.Events)
	_, places := judge.Calls(tasks, r)
	if want := []int{3, 4, 5, 7, 8, 9}; !slices.Equal(places, want) {
		t.Errorf("the places are %v, want %v", places, want)
	}
	calls, places := judge.Calls(tasks, api.Run{Events: slices.Repeat(r.Events[9:], 1000), Versions: r.Versions})
	if len(calls) != 1000 || !slices.Equal(places, rising(1000)) {
		t.Errorf("%d calls, %d places", len(calls), len(places))
	}
}

// Of many versions of one point the first one counts, wherever others stand.
func TestManyVersionsOfOnePoint(t *testing.T) {
	tasks := [][]api.Op{{revoke("x"), check("x")}}
	for seed := range 200 {
		d := dice(seed)
		var r api.Run
		for i := range 1 + d.throw(200) {
			r.Versions = append(r.Versions, api.Version{Number: i, Point: d.throw(3), Gone: d.throw(9), Policy: allowing(of(&d, drawnPolicies))})
		}
		for range 3 {
			e := api.Event{Kind: api.OpRevoke, Began: 1, Ended: d.throw(4), Point: d.throw(4)}
			r.Events = append(r.Events, e, api.Event{Number: 1, Kind: api.OpCheck, Began: 3, Ended: 9, Point: d.throw(9), Allowed: true})
		}
		wantReckoned(t, tasks, r)
	}
}
