package judge_test

import (
	"slices"
	"strconv"
	"strings"
	"testing"

	"gatehouse/api"
	"gatehouse/judge"
)

// What the tests have in common, and the chapter's examples.

// on is the triple with an action.
func on(action string) api.Triple { return api.Triple{Subject: "a", Object: "o", Action: action} }

// allowing is a policy of the actions x, y and z that allows those that are named: "xz"; "" allows nothing.
func allowing(actions string) api.Policy {
	p := api.Policy{Actions: []string{"x", "y", "z"}, Subjects: []api.Subject{{Name: "a", Trust: 1}}, Objects: []string{"o"}}
	for _, action := range actions {
		p.Rules = append(p.Rules, api.Rule{Who: "a", What: "o", Actions: []string{string(action)}})
	}
	return p
}

func number(t *testing.T, text string) int {
	t.Helper()
	if text == ".." {
		return -1
	}
	n, err := strconv.Atoi(text)
	if err != nil {
		t.Fatalf("%q: %v", text, err)
	}
	return n
}

// call is one written as "w:xy:0 3": a write of the policy that allows x and y, that began at 0 and ended at 3; "f" is a write that failed, "y:x" a check of x that was answered yes, "n:x" one that was answered no. Ended is ".." of a call in progress.
func call(t *testing.T, text string) api.Call {
	t.Helper()
	parts := strings.Split(text, ":")
	began, ended, _ := strings.Cut(parts[2], " ")
	c := api.Call{Began: number(t, began), Ended: number(t, ended)}
	switch parts[0] {
	case "w", "f":
		c.Write, c.Failed, c.Policy = true, parts[0] == "f", allowing(parts[1])
	case "y", "n":
		c.Allowed, c.Triple = parts[0] == "y", on(parts[1])
	default:
		t.Fatalf("no call: %q", text)
	}
	return c
}

// history is some calls: "w:x:0 3, y:x:1 2".
func history(t *testing.T, text string) []api.Call {
	t.Helper()
	var l []api.Call
	for _, x := range strings.Split(text, ", ") {
		if x != "" {
			l = append(l, call(t, x))
		}
	}
	return l
}

// numbers are written so: "0 1 2".
func numbers(t *testing.T, text string) []int {
	t.Helper()
	var l []int
	for _, f := range strings.Fields(text) {
		l = append(l, number(t, f))
	}
	return l
}

// list writes numbers so: "0:15 1" is 15 times 0, and then 1.
func list(t *testing.T, text string) []int {
	t.Helper()
	var l []int
	for _, f := range strings.Fields(text) {
		thing, times, many := strings.Cut(f, ":")
		n := 1
		if many {
			n = number(t, times)
		}
		l = append(l, slices.Repeat([]int{number(t, thing)}, n)...)
	}
	return l
}

// wantOrder asks Linear for an order, or for none ("none"), and Follows for the same.
func wantOrder(t *testing.T, first, calls, want string) {
	t.Helper()
	l := history(t, calls)
	order, found, e := judge.Linear(allowing(first), l)
	if want == "none" {
		if len(order) > 0 || found || e != api.OK {
			t.Errorf("Linear(%q; %s) = %v, %v, %v, want none", first, calls, order, found, e)
		}
		return
	}
	if !slices.Equal(order, numbers(t, want)) || !found || e != api.OK {
		t.Errorf("Linear(%q; %s) = %v, %v, %v, want %s", first, calls, order, found, e, want)
	}
	if !judge.Follows(allowing(first), l, order) {
		t.Errorf("Follows(%q; %s; %v) says no", first, calls, order)
	}
}

// wantRefused asks Linear for a refusal, and Follows for a no to the calls in their own order.
func wantRefused(t *testing.T, calls []api.Call, want api.Errno) {
	t.Helper()
	order, found, e := judge.Linear(allowing(""), calls)
	if len(order) > 0 || found || e != want {
		t.Errorf("Linear(%+v) = %v, %v, %v, want %v", calls, order, found, e, want)
	}
	var all []int
	for k := range calls {
		all = append(all, k)
	}
	if want == api.ErrHistory && judge.Follows(allowing(""), calls, all) {
		t.Errorf("Follows(%+v) says yes", calls)
	}
}

// dice throws numbers, always the same ones.
type dice uint64

func (d *dice) throw(n int) int {
	*d = *d*6364136223846793005 + 1442695040888963407
	return int(uint64(*d>>33) % uint64(n))
}

func of[T any](d *dice, things []T) T { return things[d.throw(len(things))] }

func (d *dice) yes(in int) bool { return d.throw(in) == 0 }

// The chapter's examples, in their order.

func TestTheExamplesOfLinear(t *testing.T) {
	wantOrder(t, "", "", "")
	wantOrder(t, "", "w:x:0 3, y:x:1 2", "0 1")
	wantOrder(t, "", "w:x:0 3, n:x:1 2", "1 0")
	wantOrder(t, "", "w:x:0 3, n:x:4 5", "none")
	wantOrder(t, "", "y:x:4 5, w:x:0 ..", "1 0")
	wantOrder(t, "", "n:x:4 5, w:x:0 ..", "0")
	wantOrder(t, "x", "f::0 3, y:x:4 5", "0 1")
	wantOrder(t, "x", "y:x:0 5, n:x:1 6, w::2 9", "0 2 1")
	wantOrder(t, "x", "n:x:0 1, y:x:2 3, w::0 9", "none")
	for _, calls := range []string{"n:x:-1 2", "n:x:2 1", "n:x:2 -2"} {
		wantRefused(t, history(t, calls), api.ErrHistory)
	}
	wantRefused(t, make([]api.Call, 13), api.ErrMany)
}

func TestTheExamplesOfFollows(t *testing.T) {
	calls := history(t, "w:x:0 3, y:x:1 2")
	for order, want := range map[string]bool{"0 1": true, "1 0": false, "0": false, "0 1 1": false, "0 2": false} {
		if got := judge.Follows(allowing(""), calls, numbers(t, order)); got != want {
			t.Errorf("Follows(%s) = %v", order, got)
		}
	}
}

func TestTheExampleOfBreach(t *testing.T) {
	if b := judge.Breach(nil, api.Run{}); b != api.BreachNone {
		t.Errorf("Breach of the zero run = %d", b)
	}
}
