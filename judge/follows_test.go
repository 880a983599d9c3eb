package judge_test

import (
	"math"
	"slices"
	"testing"

	"gatehouse/api"
	"gatehouse/judge"
)

// 27.2: whether an order is a right one.

func wantFollowed(t *testing.T, what, first, calls, order string, want bool) {
	t.Helper()
	if got := judge.Follows(allowing(first), history(t, calls), numbers(t, order)); got != want {
		t.Errorf("%s: Follows(%q; %s; %s) = %v", what, first, calls, order, got)
	}
}

func TestWhichOrdersAreFollowed(t *testing.T) {
	for _, x := range []struct {
		what, first, calls, order string
		want                      bool
	}{
		{"no calls", "", "", "", true},
		{"no calls, and a place", "", "", "0", false},
		{"one call", "x", "y:x:0 1", "0", true},
		{"one call, answered wrongly", "", "y:x:0 1", "0", false},
		{"one call that has ended is left out", "x", "y:x:0 1", "", false},
		{"a failed write that has ended is left out", "x", "f:x:0 1", "", false},
		{"a write that has ended is left out", "x", "w:x:0 1", "", false},
		{"one in progress is left out", "x", "n:x:0 ..", "", true},
		{"one in progress is there, and answered wrongly", "x", "n:x:0 ..", "0", false},
		{"one in progress is there", "x", "y:x:0 ..", "0", true},
		{"a place twice", "x", "y:x:0 1", "0 0", false},
		{"a place twice, one in progress", "x", "y:x:0 ..", "0 0", false},
		{"a place twice, and not the other", "x", "y:x:0 1, y:x:0 1", "1 1", false},
		{"a place below 0", "x", "y:x:0 1", "-1 0", false},
		{"a place below 0, behind", "x", "y:x:0 1", "0 -1", false},
		{"a place below 0 alone", "x", "y:x:0 ..", "-1", false},
		{"a place of no call", "x", "y:x:0 1", "0 1", false},
		{"a place of no call, ahead", "x", "y:x:0 1", "1 0", false},
		{"a place far off", "x", "y:x:0 1", "0 9223372036854775807", false},
		{"a place far off", "x", "y:x:0 1", "0 -9223372036854775808", false},
		{"not the first right order", "", "w:x:0 9, w:y:0 9, w:z:0 9", "2 1 0", true},
		{"more than the first right order", "", "n:x:0 1, w:x:0 ..", "0 1", true},
		{"in time", "", "w:x:0 3, n:y:4 5", "0 1", true},
		{"not in time", "", "w:x:0 3, n:y:4 5", "1 0", false},
		{"at one moment", "", "w:x:0 4, n:y:4 5", "1 0", true},
		{"not in time, with one between that is", "", "w:x:0 3, n:y:4 5, n:z:0 9", "1 2 0", false},
		{"not in time of one in progress", "", "w:x:0 3, n:y:4 ..", "1 0", false},
		{"likewise, left out", "", "w:x:0 3, n:y:4 ..", "0", true},
		{"what is in progress is ahead of nothing", "", "w:x:0 .., n:x:4 5", "1 0", true},
		{"the latest end does not speak for all", "", "w:x:0 9, w:y:0 3, n:z:4 5", "2 1 0", false},
		{"nor does the last one", "", "w:x:0 3, w:y:0 9, n:z:4 5", "2 0 1", false},
		{"nor does the first one", "", "w:x:0 9, w:y:0 3, n:z:4 5", "2 0 1", false},
		{"the last write counts", "", "w:x:0 9, w:y:0 9, y:y:0 9", "0 1 2", true},
		{"not the one ahead of it", "", "w:x:0 9, w:y:0 9, y:y:0 9", "1 0 2", false},
		{"a failed one counts for nothing", "", "w:x:0 9, f:y:0 9, y:y:0 9", "0 1 2", false},
		{"likewise", "x", "f:y:0 9, y:x:0 9", "0 1", true},
		{"a write in progress that is left out counts for nothing", "", "w:x:0 .., y:x:0 9", "1", false},
		{"each check is asked", "x", "y:x:0 9, w::0 9, n:x:0 9, y:x:0 9", "0 1 2 3", false},
		{"a check between two writes", "", "w:x:0 9, w:y:0 9, y:x:0 9, n:y:0 9", "0 2 3 1", true},
	} {
		wantFollowed(t, x.what, x.first, x.calls, x.order, x.want)
	}
}

// Wrong moments of any call, in the order or not.
func TestWrongMomentsAreNotFollowed(t *testing.T) {
	for _, order := range []string{"0 1", "1 0", "0", "1", "", "0 1 2", "5"} {
		for _, wrong := range []string{"n:x:-1 ..", "n:x:-1 2", "n:x:2 1", "n:x:2 -2", "w::1 0", "f::-5 ..", "w:x:0 -9223372036854775808", "n:x:-9223372036854775808 9223372036854775807"} {
			wantFollowed(t, "a wrong one ahead", "", wrong+", n:x:0 3", order, false)
			wantFollowed(t, "a wrong one behind", "", "n:x:0 3, "+wrong, order, false)
			wantFollowed(t, "a wrong one, and one in progress", "", wrong+", n:x:0 ..", order, false)
		}
	}
	wantFollowed(t, "the right ones", "", "n:x:0 .., n:x:0 3", "0 1", true)
}

// manyCalls are checks and writes in turn, each in some of its neighbours' time, that follow in their places' order.
func manyCalls(n int) []api.Call {
	var l []api.Call
	for k := range n {
		c := api.Call{Began: 2 * k, Ended: 2*k + 9}
		switch k % 4 {
		case 0:
			c.Write, c.Policy = true, allowing("x")
		case 2:
			c.Write, c.Policy = true, allowing("y")
		default:
			c.Allowed, c.Triple = true, on([]string{"x", "y"}[k%4/2])
		}
		l = append(l, c)
	}
	return l
}

// However many calls there are.
func TestManyCallsAreFollowed(t *testing.T) {
	for _, n := range []int{12, 13, 14, 64, 65, 1000, 100000} {
		calls, order := manyCalls(n), rising(n)
		if !judge.Follows(allowing(""), calls, order) {
			t.Errorf("%d calls are not followed", n)
		}
		if judge.Follows(allowing(""), calls, order[1:]) || judge.Follows(allowing(""), calls, order[:n-1]) || judge.Follows(allowing(""), calls, append(order, 0)) {
			t.Errorf("%d calls are followed without one, or with one twice", n)
		}
		turned := slices.Clone(order)
		turned[n/2], turned[n/2+1] = turned[n/2+1], turned[n/2]
		if judge.Follows(allowing(""), calls, turned) {
			t.Errorf("%d calls are followed with two of them turned", n)
		}
		slices.Reverse(turned)
		if judge.Follows(allowing(""), calls, turned) {
			t.Errorf("%d calls are followed from behind", n)
		}
		calls[n-1].Allowed = !calls[n-1].Allowed
		if judge.Follows(allowing(""), calls, order) != calls[n-1].Write { // a write has no answer
			t.Errorf("%d calls: the last one's answer", n)
		}
		calls[n-1].Ended = math.MaxInt
		calls[0].Ended = -7
		if judge.Follows(allowing(""), calls, order) {
			t.Errorf("%d calls are followed, one of wrong moments", n)
		}
	}
}

// Beyond Linear's calls too: a check that is behind another's end stands behind it.
func TestOneOfManyOutOfTime(t *testing.T) {
	const n = 400
	for at := range n {
		var calls []api.Call
		for range n {
			calls = append(calls, api.Call{Began: 10, Ended: 20, Triple: on("x")})
		}
		calls[at].Ended = 10
		for _, other := range []int{0, at / 2, n/2 + at/2, n - 1} {
			if other == at {
				continue
			}
			calls[other].Began = 11
			if got := judge.Follows(allowing(""), calls, rising(n)); got != (at < other) {
				t.Fatalf("%d ended ahead of %d: %v", at, other, got)
			}
			calls[other].Began = 10
		}
	}
}
