package why_test

import (
	"math"
	"testing"

	"gatehouse/api"
	"gatehouse/why"
)

// house has roles that inherit and groups within groups, in rings too: clerk and staff, floor and yard. No rules yet.
func house() api.Policy {
	return api.Policy{
		Actions:  []string{"open", "read", "write"},
		Subjects: []api.Subject{{Name: "ann", Trust: 0.5}, {Name: "bob", Trust: 0.25}, {Name: "cat", Trust: 1}},
		Roles:    []string{"guard", "clerk", "staff", "guest"},
		Objects:  []string{"door", "safe", "lamp"},
		Groups:   []string{"hall", "floor", "building", "yard"},
		Members:  pairs("ann>guard bob>staff cat>guest cat>clerk"),
		Inherits: pairs("clerk>staff guard>clerk staff>clerk"),
		Parts:    pairs("safe>floor door>hall lamp>yard lamp>floor"),
		Withins:  pairs("hall>floor floor>building floor>yard yard>floor"),
	}
}

func ruled(rules ...api.Rule) api.Policy {
	p := house()
	p.Rules = rules
	return p
}

func excepting(p api.Policy, list string) api.Policy {
	p.Excepts = triples(list)
	return p
}

func TestEachVerdictInItsTurn(t *testing.T) {
	x := triple("ann/door/open")
	yes, no := rule("ann", "door", "open"), denying(rule("ann", "door", "open"))
	allowed := func(at int) api.Reason { return reason(api.WhyAllowed, at, "ann", "door") }
	denied := func(at int) api.Reason { return reason(api.WhyDenied, at, "ann", "door") }
	excepted := func(at int) api.Reason { return reason(api.WhyExcepted, at, "", "") }
	nothing, unknown := reason(api.WhyNothing, 0, "", ""), reason(api.WhyUnknown, 0, "", "")
	other := rule("bob", "safe", "read")
	for _, c := range []struct {
		what string
		p    api.Policy
		want api.Reason
	}{
		{"no rule at all", house(), nothing},
		{"rules of other triples", ruled(other, denying(other), rule("ann", "door", "read")), nothing},
		{"allowed", ruled(yes), allowed(1)},
		{"allowed by the last", ruled(other, denying(other), yes), allowed(3)},
		{"allowed twice: the first counts", ruled(other, yes, yes, other), allowed(2)},
		{"denied", ruled(no), denied(1)},
		{"denied, and allowed ahead of it", ruled(yes, yes, no, no), denied(3)},
		{"denied, and allowed behind it", ruled(other, no, yes), denied(2)},
		{"excepted, and no rule", excepting(house(), "ann/door/open"), excepted(1)},
		{"excepted and allowed", excepting(ruled(yes), "bob/door/open ann/door/open"), excepted(2)},
		{"excepted and denied", excepting(ruled(no), "ann/door/open"), excepted(1)},
		{"excepted, denied and allowed", excepting(ruled(yes, no), "ann/door/open"), excepted(1)},
		{"excepted twice: the first counts", excepting(ruled(yes), "ann/safe/open ann/door/open ann/door/read ann/door/open"), excepted(2)},
		{"excepts of other triples", excepting(ruled(yes), "bob/door/open ann/safe/open ann/door/read guard/door/open ann/hall/open"), allowed(1)},
	} {
		wantReason(t, c.what, c.p, x, c.want)
	}
	p := excepting(ruled(rule("nobody", "nothing", ""), rule("", "", ""), yes, no), "dan/door/open ann/gate/open ann/door/shut // ann/door/open")
	for _, text := range []string{"dan/door/open", "ann/gate/open", "ann/door/shut", "//", "guard/door/open", "ann/hall/open", "door/ann/open", "dan/gate/open", "dan/gate/shut", "ann//open"} {
		wantReason(t, "a name that is not there, excepted or not", p, triple(text), unknown)
	}
	wantReason(t, "nothing is there", api.Policy{}, api.Triple{}, unknown)
}

func TestWhichRuleMatches(t *testing.T) {
	x := triple("ann/door/open")
	cond := func(cond int8, level float64) api.Rule {
		return api.Rule{Who: "ann", What: "door", Cond: cond, Level: level}
	}
	for what, c := range map[string]struct {
		rule api.Rule
		want bool
	}{
		"all actions":                {rule("ann", "door", ""), true},
		"the action among others":    {rule("ann", "door", "write open"), true},
		"other actions":              {rule("ann", "door", "write read"), false},
		"an action nobody has":       {rule("ann", "door", "shut"), false},
		"by role and group":          {rule("staff", "yard", "open"), true},
		"another subject":            {rule("bob", "door", "open"), false},
		"another object":             {rule("ann", "safe", "open"), false},
		"a role that she does not":   {rule("guest", "door", "open"), false},
		"a role where a group is":    {rule("ann", "guard", "open"), false},
		"a group where a role is":    {rule("hall", "door", "open"), false},
		"at the level":               {cond(api.Above, 0.5), true},
		"above what she has":         {cond(api.Above, 0.75), false},
		"not below":                  {cond(api.Below, 0.5), false},
		"below":                      {cond(api.Below, 0.75), true},
		"a condition that is none":   {cond(3, 0), false},
		"a level that is no number":  {cond(api.Above, math.NaN()), false},
		"always, whatever the level": {cond(api.Always, 2), true},
	} {
		c.rule.Deny = false
		verdict := api.WhyAllowed
		for range 2 {
			p := ruled(rule("bob", "safe", ""), c.rule)
			if got := why.Explain(p, x); c.want && (got.Verdict != verdict || got.Rule != 2) || !c.want && got.Verdict != api.WhyNothing {
				t.Errorf("%s: %+v", what, got)
			}
			c.rule.Deny, verdict = true, api.WhyDenied
		}
	}
}

func TestWaysOfReasons(t *testing.T) {
	for _, c := range []struct{ x, who, what, wayWho, wayWhat string }{
		{"ann/door/open", "ann", "door", "ann", "door"},
		{"ann/door/open", "guard", "hall", "ann > guard", "door > hall"},
		{"ann/door/open", "staff", "building", "ann > guard > clerk > staff", "door > hall > floor > building"},
		{"ann/door/open", "staff", "yard", "ann > guard > clerk > staff", "door > hall > floor > yard"},
		{"bob/lamp/open", "clerk", "building", "bob > staff > clerk", "lamp > floor > building"},
		{"cat/safe/read", "staff", "safe", "cat > clerk > staff", "safe"},
		{"cat/safe/read", "cat", "floor", "cat", "safe > floor"},
	} {
		for _, deny := range []bool{false, true} {
			r := rule(c.who, c.what, "")
			r.Deny = deny
			want := reason(api.WhyAllowed, 1, c.wayWho, c.wayWhat)
			if deny {
				want.Verdict = api.WhyDenied
			}
			wantReason(t, "ways", ruled(r), triple(c.x), want)
		}
	}
}

// Of two ways of one length the one whose pairs stand first counts: the members' ahead of the inherits', the parts' ahead of the withins'.
func TestTheFirstOfTheWays(t *testing.T) {
	for _, c := range []struct{ first, behind, want string }{
		{"x>a x>b", "a>z b>z", "x > a > z"},
		{"x>b x>a", "a>z b>z", "x > b > z"},
		{"x>b b>z", "x>a a>z", "x > b > z"},
		{"x>a a>z", "x>b b>z", "x > a > z"},
		{"b>z a>z", "x>a x>b", "x > a > z"},
		{"x>b", "x>a a>z b>z", "x > b > z"},
		{"a>z x>b", "x>a b>z", "x > b > z"},
		{"x>a a>b b>z", "x>z", "x > z"},
		{"x>x", "x>z x>x", "x > z"},
	} {
		p := api.Policy{Actions: []string{"open"}, Subjects: subjects("x"), Objects: []string{"y"}, Rules: []api.Rule{rule("z", "y", "")}}
		p.Members, p.Inherits = pairs(c.first), pairs(c.behind)
		wantReason(t, c.first+" and "+c.behind, p, triple("x/y/open"), reason(api.WhyAllowed, 1, c.want, "y"))
		p = api.Policy{Actions: []string{"open"}, Subjects: subjects("y"), Objects: []string{"x"}, Rules: []api.Rule{rule("y", "z", "")}}
		p.Parts, p.Withins = pairs(c.first), pairs(c.behind)
		wantReason(t, c.first+" and "+c.behind, p, triple("y/x/open"), reason(api.WhyAllowed, 1, "y", c.want))
	}
}

// A policy that is not right has a meaning too.
func TestPoliciesThatAreNotRight(t *testing.T) {
	twice := api.Policy{
		Actions:  []string{"open", "open"},
		Subjects: []api.Subject{{Name: "ann", Trust: 0}, {Name: "ann", Trust: 1}},
		Objects:  []string{"door", "door"},
		Rules:    []api.Rule{{Who: "ann", What: "door", Cond: api.Above, Level: 0.5}},
	}
	wantReason(t, "of two trusts the first counts", twice, triple("ann/door/open"), reason(api.WhyNothing, 0, "", ""))
	twice.Rules[0].Cond = api.Below
	wantReason(t, "of two trusts the first counts", twice, triple("ann/door/open"), reason(api.WhyAllowed, 1, "ann", "door"))

	strange := api.Policy{
		Actions:  []string{""},
		Subjects: []api.Subject{{Name: "", Trust: math.NaN()}},
		Objects:  []string{""},
		Members:  []api.Pair{{From: "", To: "\xff"}},
		Rules:    []api.Rule{{Who: "\xff", What: "", Actions: []string{""}}},
	}
	wantReason(t, "empty names", strange, api.Triple{}, api.Reason{Verdict: api.WhyAllowed, Rule: 1, Who: []string{"", "\xff"}, What: []string{""}})
	strange.Rules[0].Cond = api.Below
	wantReason(t, "a trust that is no number", strange, api.Triple{}, reason(api.WhyNothing, 0, "", ""))

	crossed := api.Policy{
		Actions: []string{"x"}, Subjects: subjects("x"), Objects: []string{"x"},
		Members: pairs("x>y"), Parts: pairs("x>z"),
		Rules: []api.Rule{rule("z", "y", ""), rule("y", "y", ""), rule("z", "z", ""), rule("y", "z", "x")},
	}
	wantReason(t, "one name in three lists", crossed, triple("x/x/x"), reason(api.WhyAllowed, 4, "x > y", "x > z"))
	crossed.Inherits, crossed.Withins = pairs("q>z y>q"), pairs("z>q q>y")
	wantReason(t, "pairs of names that are nowhere else", crossed, triple("x/x/x"), reason(api.WhyAllowed, 1, "x > y > q > z", "x > z > q > y"))
}
