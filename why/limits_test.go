package why_test

import (
	"slices"
	"strings"
	"testing"

	"gatehouse/api"
	"gatehouse/valid"
	"gatehouse/why"
)

// greatest has as much of everything as a right policy may have; all roles hang in one row, and all groups.
func greatest() api.Policy {
	var p api.Policy
	for k := range api.MaxActions {
		p.Actions = append(p.Actions, numbered("a", k))
	}
	for k := range api.MaxEach {
		p.Subjects = append(p.Subjects, api.Subject{Name: numbered("s", k), Trust: 0.5})
		p.Roles, p.Objects, p.Groups = append(p.Roles, numbered("r", k)), append(p.Objects, numbered("o", k)), append(p.Groups, numbered("g", k))
	}
	for k := range api.MaxPairs {
		from, to := k%64, (k+k/64)%64
		p.Members = append(p.Members, api.Pair{From: numbered("s", from), To: numbered("r", to)})
		p.Inherits = append(p.Inherits, api.Pair{From: numbered("r", from), To: numbered("r", (to+1)%64)})
		p.Parts = append(p.Parts, api.Pair{From: numbered("o", from), To: numbered("g", to)})
		p.Withins = append(p.Withins, api.Pair{From: numbered("g", from), To: numbered("g", (to+1)%64)})
	}
	for k := range api.MaxRules {
		p.Rules = append(p.Rules, api.Rule{Who: numbered("r", k%64), What: numbered("g", k/4), Actions: []string{"a0", numbered("a", 1+k%14)}, Cond: api.Above, Level: float64(k%4) / 4})
		p.Excepts = append(p.Excepts, api.Triple{Subject: numbered("s", k%64), Object: numbered("o", k/64), Action: "a0"})
	}
	return p
}

func TestTheGreatestPolicy(t *testing.T) {
	p := greatest()
	if err := valid.Check(p); err != nil {
		t.Fatal(err)
	}
	for _, text := range []string{"s0/o0/a0", "s63/o63/a14", "s63/o63/a15", "s17/o3/a0", "s17/o4/a0", "s5/o60/a2"} {
		x := triple(text)
		wantReason(t, "the greatest policy", p, x, slowExplain(p, x))
	}
	for _, c := range [][2]string{{"o3", "a0"}, {"o4", "a0"}, {"o63", "a14"}, {"o63", "a15"}} {
		if got, want := why.Who(p, c[0], c[1]), slowWho(p, c[0], c[1]); !slices.Equal(got, want) {
			t.Errorf("Who of %v: %q, want %q", c, got, want)
		}
	}
	if got, want := why.What(p, "s5", "a0"), slowWhat(p, "s5", "a0"); !slices.Equal(got, want) || len(got) == 0 {
		t.Errorf("What: %q, want %q", got, want)
	}
	last := p.Rules[255]
	last.Deny, last.Cond = true, api.Always
	p.Rules[255] = last
	x := triple("s63/o63/" + last.Actions[1])
	wantReason(t, "denied by the last rule", p, x, slowExplain(p, x))
	if got := why.Explain(p, x); got.Verdict != api.WhyDenied || got.Rule != 256 {
		t.Errorf("%+v", got)
	}
}

// Pairs and rules by the ten thousands: the pairs are gone along once for all rules, not once for each.
func TestFarMoreThanARightPolicyHas(t *testing.T) {
	const many = 20000
	p := api.Policy{Actions: []string{"a", "b"}, Subjects: subjects("n0"), Objects: []string{"n0"}}
	for k := range many {
		p.Members = append(p.Members, api.Pair{From: numbered("n", k), To: numbered("n", k+1)})
		p.Withins = append(p.Withins, api.Pair{From: numbered("n", k), To: numbered("n", k+1)})
		p.Rules = append(p.Rules, rule(numbered("n", k+1), numbered("n", many-k), "b"))
	}
	x := triple("n0/n0/a")
	wantReason(t, "no rule of many", p, x, reason(api.WhyNothing, 0, "", ""))
	p.Rules = append(p.Rules, rule(numbered("n", many), numbered("n", many), ""))
	got := why.Explain(p, x)
	if got.Verdict != api.WhyAllowed || got.Rule != many+1 || len(got.Who) != many+1 || len(got.What) != many+1 {
		t.Errorf("verdict %d, rule %d, ways of %d and %d names", got.Verdict, got.Rule, len(got.Who), len(got.What))
	}
	if !why.Holds(p, x, got) {
		t.Error("it does not hold")
	}
	got.Who[many/2] = "x"
	if why.Holds(p, x, got) {
		t.Error("a long way with a wrong name holds")
	}
	wantNames(t, "Who", why.Who(p, "n0", "a"), "n0")
}

// A way about a ring, a hundred thousand times.
func TestALongWay(t *testing.T) {
	p := ruled(rule("staff", "door", ""))
	rounds := strings.Repeat("clerk > staff > ", 100000)
	x := triple("ann/door/open")
	long := reason(api.WhyAllowed, 1, "ann > guard > "+rounds+"clerk > staff", "door")
	if !why.Holds(p, x, long) {
		t.Error("it does not hold")
	}
	if lines := why.Tell(p, x, long); len(lines) != 3 || lines[1] != "who: ann > guard > "+rounds+"clerk > staff" {
		t.Errorf("%d lines", len(lines))
	}
	if why.Holds(p, x, reason(api.WhyAllowed, 1, "ann > guard > "+rounds+"staff", "door")) {
		t.Error("one step that is none, at its end")
	}
}
