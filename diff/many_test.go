package diff_test

import (
	"slices"
	"strconv"
	"testing"

	"gatehouse/api"
	"gatehouse/diff"
)

// Policies of many triples.

// broad allows everything to everybody, by one role and one group.
func broad(subjects, objects, actions int) api.Policy {
	p := api.Policy{Roles: []string{"r"}, Groups: []string{"g"}, Rules: []api.Rule{{Who: "r", What: "g"}}}
	for i := range subjects {
		name := "s" + strconv.Itoa(i)
		p.Subjects, p.Members = append(p.Subjects, api.Subject{Name: name, Trust: 1}), append(p.Members, api.Pair{From: name, To: "r"})
	}
	for i := range objects {
		name := "o" + strconv.Itoa(i)
		p.Objects, p.Parts = append(p.Objects, name), append(p.Parts, api.Pair{From: name, To: "g"})
	}
	for i := range actions {
		p.Actions = append(p.Actions, "a"+strconv.Itoa(i))
	}
	return p
}

func wantCounts(t *testing.T, what string, l []api.Change, lost, gained int) {
	t.Helper()
	n := 0
	for n < len(l) && !l[n].Gained {
		n++
	}
	if n != lost || len(l)-n != gained || slices.ContainsFunc(l[n:], func(c api.Change) bool { return !c.Gained }) {
		t.Errorf("%s: %d changes, the first %d of them lost; want %d lost, then %d gained", what, len(l), n, lost, gained)
	}
}

// The greatest relation that a right policy may have, and one far beyond it.
func TestManyTriples(t *testing.T) {
	for _, size := range [][3]int{{64, 64, 16}, {300, 100, 4}} {
		p, all := broad(size[0], size[1], size[2]), size[0]*size[1]*size[2]
		reversed, less := broad(size[0], size[1], size[2]), broad(size[0], size[1], size[2])
		slices.Reverse(reversed.Subjects)
		slices.Reverse(reversed.Objects)
		slices.Reverse(reversed.Actions)
		less.Excepts = triples("s63/o63/a1 s0/o0/a0")
		wantCounts(t, "all lost", diff.List(p, api.Policy{}), all, 0)
		wantCounts(t, "all gained", diff.List(api.Policy{}, p), 0, all)
		wantCounts(t, "another order", diff.List(p, reversed), 0, 0)
		wantChanges(t, "two less", p, less, "-s0/o0/a0 -s63/o63/a1")
		wantChanges(t, "two more, in another order", less, reversed, "+s63/o63/a1 +s0/o0/a0")
		if got := diff.List(api.Policy{}, reversed); got[0] != (api.Change{Triple: triple("s" + strconv.Itoa(size[0]-1) + "/o" + strconv.Itoa(size[1]-1) + "/a" + strconv.Itoa(size[2]-1)), Gained: true}) {
			t.Errorf("the first of all gained: %+v", got[0])
		}
	}
}

// Half of the subjects in common.
func TestManyTriplesLostAndGained(t *testing.T) {
	p, q := broad(64, 64, 16), broad(96, 64, 16)
	q.Subjects = q.Subjects[32:]
	wantCounts(t, "half lost, half gained", diff.List(p, q), 32*64*16, 32*64*16)
	l := diff.List(p, q)
	if l[0].Triple != triple("s0/o0/a0") || l[32*64*16-1].Triple != triple("s31/o63/a15") || l[32*64*16].Triple != triple("s64/o0/a0") || l[len(l)-1].Triple != triple("s95/o63/a15") {
		t.Error("the order")
	}
	chain := diff.Chain(p, q, api.Policy{}, q, p)
	for i, want := range [][2]int{{32768, 32768}, {65536, 0}, {0, 65536}, {32768, 32768}} {
		wantCounts(t, "along a chain", chain[i], want[0], want[1])
	}
}
