package judge_test

import (
	"math"
	"slices"
	"strings"
	"testing"

	"gatehouse/api"
	"gatehouse/judge"
)

// 27.1: the first right order of some calls.

func TestWhatStandsInAnOrder(t *testing.T) {
	for _, x := range []struct{ what, first, calls, want string }{
		{"one check", "x", "y:x:0 0", "0"},
		{"one check", "x", "n:x:0 0", "none"},
		{"one check", "", "n:x:0 0", "0"},
		{"a name that is not there", "xyz", "n:nothing:0 0", "0"},
		{"a name that is not there", "xyz", "y:nothing:0 0", "none"},
		{"one write", "", "w:x:0 0", "0"},
		{"one failed write", "", "f:x:0 0", "0"},
		{"nothing has ended: nothing need stand there", "x", "n:x:0 .., y:x:0 .., w::0 .., f:x:3 ..", ""},
		{"a check in progress may stand there, and comes first", "", "n:x:0 .., n:x:5 6", "0 1"},
		{"a check in progress that would not be right is left out", "", "y:x:0 .., n:x:5 6", "1"},
		{"a check in progress that would be right behind the others is not needed there", "", "y:x:0 .., w:x:0 3", "1"},
		{"a write in progress comes first, where it does no harm", "", "w:y:0 .., n:x:5 6", "0 1"},
		{"a write in progress is left out, where it does", "", "w:x:0 .., n:x:5 6", "1"},
		{"a failed write in progress comes first", "", "f:x:0 .., n:x:5 6", "0 1"},
		{"a write in progress that is needed", "", "n:x:0 9, y:x:0 9, w:x:0 ..", "0 2 1"},
		{"two of them, of which one is needed", "", "y:x:0 9, w:x:0 .., w:x:0 ..", "1 0"},
		{"two of them, of which both are needed", "", "y:x:0 9, n:x:0 1, y:y:0 9, w:y:0 .., w:x:0 ..", "1 3 2 4 0"},
		{"a write in progress that is behind another's end is still behind it", "", "w:x:4 .., n:x:2 3, y:x:0 3", "none"},
		{"what is in progress is ahead of nothing", "", "w:x:0 .., y:x:5 6", "0 1"},
	} {
		wantOrder(t, x.first, x.calls, x.want)
		if t.Failed() {
			t.Fatal(x.what)
		}
	}
}

func TestWhoEndedStandsAhead(t *testing.T) {
	for _, x := range []struct{ what, first, calls, want string }{
		{"a moment between", "", "n:x:5 6, w:x:0 4", "none"},
		{"one moment is the end of one and the beginning of the other: in any order", "", "n:x:4 6, w:x:0 4", "0 1"},
		{"likewise", "", "y:x:4 6, w:x:0 4", "1 0"},
		{"the end comes next to the beginning", "", "y:x:0 3, w:x:4 6", "none"},
		{"the end and the beginning are one", "", "y:x:0 4, w:x:4 6", "1 0"},
		{"all of one moment", "", "y:x:4 4, w:x:4 4, n:x:4 4", "2 1 0"},
		{"all at the moment 0", "", "y:x:0 0, w:x:0 0", "1 0"},
		{"ended at 0, began at 1", "x", "w::1 1, n:x:0 0", "none"},
		{"ended at 0, began at 0", "x", "n:x:0 0, w::0 1", "1 0"},
		{"the latest moments", "", "y:x:9223372036854775807 9223372036854775807, w:x:0 9223372036854775806", "1 0"},
		{"the latest moments", "", "n:x:9223372036854775807 9223372036854775807, w:x:0 9223372036854775806", "none"},
		{"places say nothing of time", "", "y:x:8 9, y:x:6 7, w:x:0 1", "2 1 0"},
		{"two behind one another in one write's time", "", "w:x:0 9, n:x:1 2, y:x:3 4", "1 0 2"},
		{"what has come does not go", "", "w:x:0 9, y:x:1 2, n:x:3 4", "none"},
	} {
		wantOrder(t, x.first, x.calls, x.want)
		if t.Failed() {
			t.Fatal(x.what)
		}
	}
}

func TestWhatTheRegisterHolds(t *testing.T) {
	for _, x := range []struct{ what, first, calls, want string }{
		{"the last write ahead", "", "w:x:0 1, w:y:2 3, y:y:4 5, n:x:4 5", "0 1 2 3"},
		{"not the one ahead of it", "", "w:x:0 1, w:y:2 3, y:x:4 5", "none"},
		{"a failed write in the midst", "", "w:x:0 1, f:y:2 3, y:x:4 5, n:y:4 5", "0 1 2 3"},
		{"all writes have failed: the first policy", "z", "f:x:0 1, f:y:2 3, y:z:4 5", "0 1 2"},
		{"the first policy once more", "z", "w:x:0 1, y:z:4 5", "none"},
		{"the first policy ahead of the write", "z", "w:x:0 5, y:z:4 5", "1 0"},
		{"two writes at one time", "", "w:x:0 9, w:y:0 9, y:x:20 21", "1 0 2"},
		{"two writes at one time, both seen", "", "w:x:0 9, w:y:0 9, y:y:10 20, y:x:10 20", "none"},
		{"two writes at one time, both seen at that time", "", "w:x:0 9, w:y:0 9, y:y:5 20, y:x:10 20", "1 2 0 3"},
		{"the same policy twice", "", "w:x:0 9, w:x:0 9, n:x:5 6, y:x:7 20", "2 0 1 3"},
		{"there and back", "", "w:x:0 30, w::0 30, w:x:0 30, y:x:1 2, n:x:3 4, y:x:5 6", "0 3 1 4 2 5"},
	} {
		wantOrder(t, x.first, x.calls, x.want)
		if t.Failed() {
			t.Fatal(x.what)
		}
	}
}

// Of several right orders the first place in which two differ decides; a list comes ahead of one that goes on from it.
func TestWhichOrderIsTheFirst(t *testing.T) {
	wantOrder(t, "", "n:x:0 9, n:x:0 9, n:x:0 9", "0 1 2")
	wantOrder(t, "", "w:x:0 9, w:y:0 9, w:z:0 9", "0 1 2")
	wantOrder(t, "", "w:x:5 9, w:y:0 4, w:z:0 9", "1 0 2")
	wantOrder(t, "", "y:x:0 9, n:x:0 9, w:x:0 9, w::0 9", "1 2 0 3")
	wantOrder(t, "x", "y:x:0 9, n:x:0 9, w:x:0 9, w::0 9", "0 2 3 1")
	wantOrder(t, "x", "n:x:0 9, w::0 .., w::0 ..", "1 0")
	wantOrder(t, "x", "w::0 .., w::0 .., n:x:0 9", "0 1 2")
	wantOrder(t, "", "n:x:0 9, n:x:0 ..", "0")
	wantOrder(t, "", "n:x:0 .., n:x:0 9, n:x:0 .., n:x:0 9, n:x:0 ..", "0 1 2 3")
	wantOrder(t, "", "w:x:0 .., n:x:5 6, y:x:0 .., f:y:0 ..", "1")
	wantOrder(t, "", "w:x:0 .., n:x:5 6, f:y:0 .., n:x:7 8", "1 2 3")
}

func TestFieldsThatCountForNothing(t *testing.T) {
	calls := history(t, "w:x:0 3, y:x:4 5, f::6 7, y:x:8 9")
	calls[0].Allowed, calls[0].Triple = true, on("y")
	calls[1].Failed, calls[1].Policy = true, allowing("y")
	calls[2].Allowed, calls[2].Triple = true, on("z")
	calls[3].Policy = allowing("")
	order, found, e := judge.Linear(allowing(""), calls)
	if !slices.Equal(order, numbers(t, "0 1 2 3")) || !found || e != api.OK || !judge.Follows(allowing(""), calls, order) {
		t.Errorf("Linear = %v, %v, %v", order, found, e)
	}
	calls[1].Allowed = false
	if order, found, _ := judge.Linear(allowing(""), calls); found || len(order) > 0 {
		t.Errorf("a check that has failed counts for a failed write: %v", order)
	}
	// a write's answer is not asked
	if order, found, _ := judge.Linear(allowing(""), []api.Call{{Write: true, Allowed: true}, {Write: true, Failed: true, Allowed: true}}); !found || len(order) != 2 {
		t.Errorf("%v, %v", order, found)
	}
}

// A policy by hand that is not right is one too.
func TestPoliciesByHand(t *testing.T) {
	wrong := allowing("x")
	wrong.Actions = append(wrong.Actions, "x", "")
	wrong.Rules = append(wrong.Rules, api.Rule{Deny: true, Cond: 77}, api.Rule{Who: "nobody"})
	wrong.Members = []api.Pair{{From: "a", To: "a"}}
	calls := []api.Call{{Write: true, Policy: wrong}, {Began: 1, Ended: 1, Allowed: true, Triple: on("x")}}
	if order, found, e := judge.Linear(api.Policy{}, calls); !slices.Equal(order, []int{0, 1}) || !found || e != api.OK {
		t.Errorf("Linear = %v, %v, %v", order, found, e)
	}
	// the zero call: the empty policy does not allow the empty triple
	for n := range 13 {
		order, found, e := judge.Linear(api.Policy{}, make([]api.Call, n))
		if !slices.Equal(order, rising(n)) || !found || e != api.OK {
			t.Errorf("%d zero calls: %v, %v, %v", n, order, found, e)
		}
	}
}

func rising(n int) []int {
	var l []int
	for k := range n {
		l = append(l, k)
	}
	return l
}

func TestHowManyCalls(t *testing.T) {
	for n := range 20 {
		calls := slices.Repeat(history(t, "n:x:0 9"), n)
		order, found, e := judge.Linear(allowing(""), calls)
		if n <= api.MaxJudged && (!slices.Equal(order, rising(n)) || !found || e != api.OK) || n > api.MaxJudged && (len(order) > 0 || found || e != api.ErrMany) {
			t.Errorf("%d calls: %v, %v, %v", n, order, found, e)
		}
		if !judge.Follows(allowing(""), calls, rising(n)) {
			t.Errorf("%d calls are not followed", n)
		}
	}
	// too many comes ahead of wrong moments
	for place := range 13 {
		calls := slices.Repeat(history(t, "n:x:0 9"), 13)
		calls[place].Began = -1
		wantRefused(t, calls, api.ErrMany)
		wantRefused(t, slices.Delete(calls, (place+1)%13, (place+1)%13+1), api.ErrHistory)
	}
	wantRefused(t, make([]api.Call, 100000), api.ErrMany)
}

func TestWrongMoments(t *testing.T) {
	moments := []int{math.MinInt, math.MinInt + 1, -3, -2, -1, 0, 1, 2, 3, math.MaxInt - 1, math.MaxInt}
	for _, began := range moments {
		for _, ended := range moments {
			may := began >= 0 && (ended == -1 || ended >= began)
			for _, kind := range []string{"n:x:0 0", "w:x:0 0", "f:x:0 0"} {
				wrong := call(t, kind)
				wrong.Began, wrong.Ended = began, ended
				for place := range 3 {
					calls := slices.Insert(history(t, "n:x:0 .., f::0 .."), place, wrong)
					if !may {
						wantRefused(t, calls, api.ErrHistory)
						continue
					}
					order, found, e := judge.Linear(allowing(""), calls)
					if !found || e != api.OK || !judge.Follows(allowing(""), calls, order) {
						t.Errorf("%s at %d, %d to %d: %v, %v, %v", kind, place, began, ended, order, found, e)
					}
				}
			}
		}
	}
	wantRefused(t, history(t, "n:x:-1 .."), api.ErrHistory)
	wantRefused(t, history(t, "n:x:0 -2"), api.ErrHistory)
	wantRefused(t, history(t, "n:x:1 0"), api.ErrHistory)
	// also where there would be no order anyhow
	wantRefused(t, history(t, "y:x:0 1, y:x:5 3"), api.ErrHistory)
}

// Sets of calls that lead nowhere are not gone into again: there are 12 factorial orders.
func TestTwelveCallsAtOneTime(t *testing.T) {
	wantOrder(t, "", strings.Repeat("w:x:0 9, ", 11)+"y:y:0 9", "none")
	wantOrder(t, "x", strings.Repeat("w:x:0 .., ", 11)+"n:x:0 9", "none")
	wantOrder(t, "", strings.Repeat("f:y:0 9, ", 11)+"y:y:0 9", "none")
	wantOrder(t, "", strings.Repeat("n:x:0 9, ", 11)+"y:y:0 9", "none")
	wantOrder(t, "x", "w:x:0 9, w:y:0 9, w:z:0 9, w:xy:0 9, w:xz:0 9, w:yz:0 9, w:xyz:0 9, w::0 9, w:x:0 9, w:y:0 9, y:x:0 9, y:nothing:0 9", "none")
	wantOrder(t, "", strings.Repeat("w:x:0 9, ", 10)+"n:x:0 9, y:x:0 9", "10 0 1 2 3 4 5 6 7 8 9 11")
	wantOrder(t, "", strings.Repeat("y:x:0 9, ", 11)+"w:x:0 9", "11 0 1 2 3 4 5 6 7 8 9 10")
}
