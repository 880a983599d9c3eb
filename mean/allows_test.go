package mean_test

import (
	"slices"
	"testing"

	"gatehouse/api"
	"gatehouse/mean"
)

func TestAllows(t *testing.T) {
	above := func(r api.Rule, level float64) api.Rule {
		r.Cond, r.Level = api.Above, level
		return r
	}
	for _, c := range []struct {
		what    string
		rules   []api.Rule
		excepts string
		want    string
	}{
		{"no rules", nil, "", ""},
		{"no rules but excepts", nil, "ann/door/open", ""},
		{"one rule of one triple", []api.Rule{rule("ann", "door", "open")}, "", "ann/door/open"},
		{"one rule of all actions", []api.Rule{rule("ann", "door", "")}, "", "ann/door/open ann/door/read ann/door/write"},
		{"a role and a group", []api.Rule{rule("clerk", "hall", "read")}, "", "ann/door/read cat/door/read"},
		{"a rule that denies, alone", []api.Rule{denying(rule("ann", "door", "open"))}, "", ""},
		{"the same rule twice", []api.Rule{rule("ann", "door", "open"), rule("ann", "door", "open")}, "", "ann/door/open"},
		{"two rules of one triple", []api.Rule{rule("staff", "door", "open"), rule("ann", "building", "open")}, "",
			"ann/door/open bob/door/open cat/door/open ann/safe/open ann/lamp/open"},
		{"denied, though several allow", []api.Rule{rule("ann", "door", ""), denying(rule("staff", "building", "open")), rule("guard", "hall", "open")}, "",
			"ann/door/read ann/door/write"},
		{"denied by one of several", []api.Rule{rule("ann", "door", ""), denying(rule("guest", "building", "")), denying(rule("ann", "safe", "")), denying(rule("guard", "floor", "read"))}, "",
			"ann/door/open ann/door/write"},
		{"denied for all actions", []api.Rule{denying(rule("clerk", "floor", "")), rule("staff", "building", "open read")}, "",
			"bob/door/open bob/door/read bob/safe/open bob/safe/read bob/lamp/open bob/lamp/read"},
		{"excepted, though several allow", []api.Rule{rule("ann", "door", ""), rule("ann", "building", "read")}, "ann/door/read ann/lamp/read",
			"ann/door/open ann/door/write ann/safe/read"},
		{"excepted and denied", []api.Rule{rule("ann", "door", ""), denying(rule("ann", "door", "open"))}, "ann/door/open", "ann/door/read ann/door/write"},
		{"excepted twice", []api.Rule{rule("ann", "door", "open read")}, "ann/door/read ann/door/read", "ann/door/open"},
		{"excepts of other triples", []api.Rule{rule("ann", "door", "open")}, "bob/door/open ann/safe/open ann/door/read", "ann/door/open"},
		{"excepts of a role and a group say nothing", []api.Rule{rule("ann", "door", "open")}, "guard/door/open ann/hall/open staff/building/open", "ann/door/open"},
		{"excepts with names that are not there", []api.Rule{rule("ann", "door", "open")}, "dan/door/open ann/gate/open //", "ann/door/open"},
		{"allowed by trust", []api.Rule{above(rule("staff", "door", "open"), 0.5)}, "", "ann/door/open cat/door/open"},
		{"denied by trust", []api.Rule{rule("staff", "door", "open"), denying(above(rule("staff", "door", ""), 0.5))}, "", "bob/door/open"},
		{"a condition that is none denies nothing", []api.Rule{rule("ann", "door", "open"), {Deny: true, Who: "ann", What: "door", Cond: 7}}, "", "ann/door/open"},
	} {
		p := house()
		p.Rules, p.Excepts = c.rules, triples(c.excepts)
		wantAllowed(t, c.what, p, c.want)
		for range c.rules {
			p.Rules = append(slices.Clone(p.Rules[1:]), p.Rules[0])
			wantAllowed(t, c.what+", the rules in another order", p, c.want)
		}
		slices.Reverse(p.Rules)
		wantAllowed(t, c.what+", the rules the other way round", p, c.want)
	}
}

// Not one list of those that a triple's names stand in may be missing.
func TestNamesThatAreNotThere(t *testing.T) {
	whole := api.Policy{Actions: []string{"open"}, Subjects: subjects("ann"), Objects: []string{"door"}, Rules: []api.Rule{rule("ann", "door", "open"), rule("ann", "door", "")}}
	x := triple("ann/door/open")
	wantAllowed(t, "whole", whole, "ann/door/open")
	for what, cut := range map[string]func(p *api.Policy){
		"no subjects":               func(p *api.Policy) { p.Subjects = nil },
		"no objects":                func(p *api.Policy) { p.Objects = nil },
		"no actions":                func(p *api.Policy) { p.Actions = []string{} },
		"no rules":                  func(p *api.Policy) { p.Rules = nil },
		"other subjects":            func(p *api.Policy) { p.Subjects = subjects("bob door open") },
		"other objects":             func(p *api.Policy) { p.Objects = []string{"safe", "ann", "open"} },
		"other actions":             func(p *api.Policy) { p.Actions = []string{"read", "ann", "door"} },
		"a role of the name":        func(p *api.Policy) { p.Subjects, p.Roles = nil, []string{"ann"} },
		"a group of the name":       func(p *api.Policy) { p.Objects, p.Groups = nil, []string{"door"} },
		"a member, and no subject":  func(p *api.Policy) { p.Subjects, p.Members = nil, pairs("ann>ann bob>ann") },
		"part of a group, no thing": func(p *api.Policy) { p.Objects, p.Parts = nil, pairs("door>door safe>door") },
	} {
		p := whole
		cut(&p)
		if mean.Allows(p, x) || slices.Contains(mean.Relation(p), x) {
			t.Errorf("%s: allowed", what)
		}
		if what != "other actions" && mean.Mask(p, "ann", "door") != 0 {
			t.Errorf("%s: a mask", what)
		}
		if matches := mean.Matches(p, rule("ann", "door", ""), x); matches != (what == "no rules") {
			t.Errorf("%s: Matches: %v", what, matches)
		}
	}
	var none api.Policy
	if mean.Allows(none, api.Triple{}) || mean.Matches(none, api.Rule{}, api.Triple{}) || mean.Mask(none, "", "") != 0 || len(mean.Relation(none)) != 0 {
		t.Error("the empty policy")
	}
}

// Of a name that is twice in Subjects the first trust counts.
func TestTheFirstTrustCounts(t *testing.T) {
	for _, c := range []struct {
		trusts []float64
		cond   int8
		want   bool
	}{
		{[]float64{0, 1}, api.Above, false}, {[]float64{1, 0}, api.Above, true}, {[]float64{0, 1}, api.Below, true}, {[]float64{1, 0}, api.Below, false},
		{[]float64{0.25, 1, 1, 1}, api.Above, false}, {[]float64{0.5, 0, 0}, api.Above, true}, {[]float64{1, 0, 1}, api.Below, false},
	} {
		p := api.Policy{Actions: []string{"open"}, Subjects: subjects("bob"), Objects: []string{"door"}}
		for _, trust := range c.trusts {
			p.Subjects = append(p.Subjects, api.Subject{Name: "ann", Trust: trust}, api.Subject{Name: "cat", Trust: 1 - trust})
		}
		p.Rules = []api.Rule{{Who: "ann", What: "door", Cond: c.cond, Level: 0.5}}
		x := triple("ann/door/open")
		if mean.Allows(p, x) != c.want || mean.Matches(p, p.Rules[0], x) != c.want || (mean.Mask(p, "ann", "door") != 0) != c.want {
			t.Errorf("trusts %v, condition %d: want %v", c.trusts, c.cond, c.want)
		}
		want := ""
		if c.want {
			want = "ann/door/open"
		}
		wantRelation(t, "a subject with several trusts", p, want)
	}
}

// A name in several lists is a subject, an object, an action and a role, each for itself.
func TestOneNameInSeveralLists(t *testing.T) {
	p := api.Policy{Actions: []string{"x", "open"}, Subjects: subjects("x ann"), Roles: []string{"x", "y"}, Objects: []string{"door", "x"}, Groups: []string{"x", "y"}}
	p.Members, p.Parts = pairs("ann>x x>y"), pairs("door>x")
	p.Rules = []api.Rule{rule("x", "x", "x")}
	wantRelation(t, "one name for all", p, "x/door/x x/x/x ann/door/x ann/x/x")
	wantAllowed(t, "one name for all", p, "x/door/x x/x/x ann/door/x ann/x/x")
	p.Rules = []api.Rule{rule("y", "x", "open"), denying(rule("ann", "door", ""))}
	wantRelation(t, "by way of the name", p, "x/door/open x/x/open ann/x/open")
	p.Rules = []api.Rule{rule("x", "y", "")}
	wantRelation(t, "an object goes along no member's pair", p, "")
}
