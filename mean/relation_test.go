package mean_test

import (
	"slices"
	"strconv"
	"testing"

	"gatehouse/api"
	"gatehouse/mean"
)

func TestTheOrderOfTheRelation(t *testing.T) {
	p := api.Policy{Actions: []string{"write", "open", "read"}, Subjects: subjects("cat ann bob"), Objects: []string{"safe", "door"}}
	p.Rules = []api.Rule{rule("ann", "door", "read write"), rule("bob", "safe", "open"), rule("cat", "door", ""), rule("ann", "safe", "open"), rule("bob", "door", "open read")}
	wantRelation(t, "as the lists have them", p, "cat/door/write cat/door/open cat/door/read ann/safe/open ann/door/write ann/door/read bob/safe/open bob/door/open bob/door/read")
	slices.Reverse(p.Rules)
	wantRelation(t, "whatever the rules' order", p, "cat/door/write cat/door/open cat/door/read ann/safe/open ann/door/write ann/door/read bob/safe/open bob/door/open bob/door/read")
	slices.Reverse(p.Actions)
	slices.Reverse(p.Subjects)
	slices.Reverse(p.Objects)
	wantRelation(t, "the lists the other way round", p, "bob/door/read bob/door/open bob/safe/open ann/door/read ann/door/write ann/safe/open cat/door/read cat/door/open cat/door/write")
}

func TestTheRelationOfTheHouse(t *testing.T) {
	p := house()
	p.Rules = []api.Rule{rule("staff", "floor", "open"), rule("guard", "safe", ""), denying(rule("ann", "door", "open")), {Who: "guest", What: "yard", Cond: api.Above, Level: 1}}
	p.Excepts = triples("ann/safe/write cat/lamp/open")
	wantRelation(t, "the house", p, "ann/safe/open ann/safe/read ann/lamp/open bob/door/open bob/safe/open bob/lamp/open cat/door/open cat/safe/open cat/lamp/read cat/lamp/write")
}

// A name that is twice in a list counts where it stands first.
func TestEachTripleOnce(t *testing.T) {
	p := api.Policy{Actions: []string{"open", "read", "open"}, Subjects: subjects("ann bob ann"), Objects: []string{"door", "door", "safe", "door"}}
	p.Rules = []api.Rule{rule("ann", "door", ""), rule("ann", "door", "open open"), rule("bob", "safe", "read"), rule("bob", "door", "open")}
	wantRelation(t, "names twice", p, "ann/door/open ann/door/read bob/door/open bob/safe/read")
	p.Subjects = []api.Subject{{Name: "bob"}, {Name: "ann", Trust: 0.25}, {Name: "bob", Trust: 1}, {Name: "ann", Trust: 1}}
	p.Rules = []api.Rule{{Who: "ann", What: "door", Cond: api.Above, Level: 0.5}, {Who: "bob", What: "safe", Cond: api.Below, Level: 0.5}}
	wantRelation(t, "names twice, with other trusts", p, "bob/safe/open bob/safe/read")
}

func TestNoSubjectsNoObjectsNoActionsNoRules(t *testing.T) {
	whole := api.Policy{Actions: []string{"open"}, Subjects: subjects("ann"), Objects: []string{"door"}, Rules: []api.Rule{rule("ann", "door", "")}}
	wantRelation(t, "whole", whole, "ann/door/open")
	for i, cut := range []func(p *api.Policy){
		func(p *api.Policy) { p.Subjects = nil }, func(p *api.Policy) { p.Subjects = []api.Subject{} },
		func(p *api.Policy) { p.Objects = nil }, func(p *api.Policy) { p.Objects = []string{} },
		func(p *api.Policy) { p.Actions = nil }, func(p *api.Policy) { p.Actions = []string{} },
		func(p *api.Policy) { p.Rules = nil }, func(p *api.Policy) { p.Rules = []api.Rule{} },
	} {
		p := whole
		cut(&p)
		wantRelation(t, "cut "+strconv.Itoa(i), p, "")
		if mean.Mask(p, "ann", "door") != 0 {
			t.Errorf("cut %d: a mask", i)
		}
	}
	// a nil list of a rule's actions and one without elements are the same
	whole.Rules = []api.Rule{{Who: "ann", What: "door", Actions: []string{}}}
	wantRelation(t, "a list of no actions", whole, "ann/door/open")
	whole.Rules = []api.Rule{{Who: "ann", What: "door"}}
	wantRelation(t, "no list of actions", whole, "ann/door/open")
}

// greatest is as great a policy as may be: 64 subjects in a chain of 64 roles, 64 objects in one of 64 groups, 16 actions, 256 rules.
func greatest() api.Policy {
	number := func(letter string, i int) string { return letter + strconv.Itoa(i) }
	p := api.Policy{Actions: manyActions(16)}
	for i := range 64 {
		p.Subjects = append(p.Subjects, api.Subject{Name: number("s", i), Trust: float64(i) / 64})
		p.Roles = append(p.Roles, number("r", i))
		p.Objects = append(p.Objects, number("o", i))
		p.Groups = append(p.Groups, number("g", i))
		p.Members = append(p.Members, api.Pair{From: number("s", i), To: number("r", 63-i)})
		p.Parts = append(p.Parts, api.Pair{From: number("o", i), To: number("g", 0)})
		p.Inherits = append(p.Inherits, api.Pair{From: number("r", i), To: number("r", (i+1)%64)})
		p.Withins = append(p.Withins, api.Pair{From: number("g", i), To: number("g", (i+1)%64)})
	}
	for i := range 256 {
		p.Rules = append(p.Rules, api.Rule{Who: number("r", i%64), What: number("g", 63-i%64), Actions: manyActions(16)})
	}
	return p
}

func TestTheGreatestPolicy(t *testing.T) {
	p := greatest()
	got := mean.Relation(p)
	if len(got) != 64*64*16 || got[0] != triple("s0/o0/a0") || got[1] != triple("s0/o0/a1") || got[16] != triple("s0/o1/a0") || got[len(got)-1] != triple("s63/o63/a15") {
		t.Fatalf("%d triples", len(got))
	}
	p.Rules[7] = api.Rule{Deny: true, Who: "r9", What: "g9", Cond: api.Below, Level: 0.5}
	if got := mean.Relation(p); len(got) != 32*64*16 || got[0] != triple("s32/o0/a0") {
		t.Fatalf("%d triples, those below 0.5 denied", len(got))
	}
	for i := range 64 {
		p.Excepts = append(p.Excepts, api.Triple{Subject: "s40", Object: "o" + strconv.Itoa(i), Action: "a3"})
	}
	if got := mean.Relation(p); len(got) != 32*64*16-64 {
		t.Fatalf("%d triples, 64 excepted", len(got))
	}
	if mean.Mask(p, "s40", "o5") != 0xfff7 || mean.Mask(p, "s41", "o5") != 0xffff || mean.Mask(p, "s31", "o5") != 0 {
		t.Error("masks")
	}
}

// More than any right policy has: the lists are gone through, not held against one another.
func TestLongLists(t *testing.T) {
	const long = 20000
	p := api.Policy{Actions: []string{"open"}, Objects: []string{"door"}}
	for i := range long {
		n := strconv.Itoa(i)
		p.Subjects = append(p.Subjects, api.Subject{Name: n}, api.Subject{Name: n, Trust: 1})
		p.Members = append(p.Members, api.Pair{From: n, To: "r" + strconv.Itoa(i%100)})
		p.Actions = append(p.Actions, "a"+n)
		p.Excepts = append(p.Excepts, api.Triple{Subject: n, Object: "door", Action: "read"})
	}
	p.Rules = []api.Rule{{Who: "r7", What: "door", Actions: append(slices.Clone(p.Actions[1000:]), "open")}, {Deny: true, Who: "r7", What: "door", Actions: p.Actions[1:]}}
	got := mean.Relation(p)
	if len(got) != long/100 || got[0] != triple("7/door/open") || got[1] != triple("107/door/open") {
		t.Fatalf("%d triples", len(got))
	}
	chain := api.Policy{Actions: []string{"open"}, Subjects: subjects("0"), Objects: []string{"0"}, Rules: []api.Rule{rule(strconv.Itoa(long), strconv.Itoa(long), "")}}
	for i := range long {
		pair := api.Pair{From: strconv.Itoa(i), To: strconv.Itoa(i + 1)}
		chain.Inherits, chain.Withins = append(chain.Inherits, pair), append(chain.Withins, pair)
	}
	wantRelation(t, "a long chain", chain, "0/0/open")
	if !mean.Allows(chain, triple("0/0/open")) || mean.Allows(chain, triple("1/0/open")) {
		t.Error("a long chain")
	}
}
