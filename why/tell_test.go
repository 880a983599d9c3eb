package why_test

import (
	"testing"

	"gatehouse/api"
	"gatehouse/why"
)

func TestTellOfNamesThatAreNotThere(t *testing.T) {
	p := house()
	unknown := reason(api.WhyUnknown, 0, "", "")
	for x, want := range map[string][]string{
		"dan/door/open":    {"no subject dan"},
		"ann/gate/open":    {"no object gate"},
		"ann/door/shut":    {"no action shut"},
		"dan/gate/open":    {"no subject dan", "no object gate"},
		"dan/door/shut":    {"no subject dan", "no action shut"},
		"ann/gate/shut":    {"no object gate", "no action shut"},
		"dan/gate/shut":    {"no subject dan", "no object gate", "no action shut"},
		"guard/hall/ann":   {"no subject guard", "no object hall", "no action ann"},
		"door/open/ann":    {"no subject door", "no object open", "no action ann"},
		"//":               {"no subject ", "no object ", "no action "},
		"a b/c > d/e\nf\"": {"no subject a b", "no object c > d", "no action e\nf\""},
		"ann/door/open":    nil,
	} {
		wantLines(t, p, triple(x), unknown, want...)
	}
}

func TestTellOfEachVerdict(t *testing.T) {
	p := ringed()
	for range 20 {
		p.Rules = append(p.Rules, denying(rule("guard", "safe", "write")))
		p.Excepts = append(p.Excepts, triple("cat/lamp/open"))
	}
	for _, c := range []struct {
		x    string
		r    api.Reason
		want []string
	}{
		{"ann/door/open", reason(api.WhyAllowed, 4, "ann", "door"), []string{"yes: allowed by rule 4", "who: ann", "what: door"}},
		{"ann/door/open", reason(api.WhyAllowed, 2, "ann > guard > clerk > staff > clerk > staff", "door > hall > floor > building"),
			[]string{"yes: allowed by rule 2", "who: ann > guard > clerk > staff > clerk > staff", "what: door > hall > floor > building"}},
		{"ann/door/read", reason(api.WhyDenied, 3, "ann > guard", "door > hall"), []string{"no: denied by rule 3", "who: ann > guard", "what: door > hall"}},
		{"ann/safe/write", reason(api.WhyDenied, 24, "ann > guard", "safe"), []string{"no: denied by rule 24", "who: ann > guard", "what: safe"}},
		{"ann/door/read", reason(api.WhyExcepted, 2, "", ""), []string{"no: excepted by 2"}},
		{"ann/door/read", reason(api.WhyExcepted, 4, "", ""), []string{"no: excepted by 4"}},
		{"cat/lamp/open", reason(api.WhyExcepted, 24, "", ""), []string{"no: excepted by 24"}},
		{"ann/safe/read", reason(api.WhyNothing, 0, "", ""), []string{"no: no rule"}},
		{"ann/door/open", reason(api.WhyAllowed, 3, "ann", "door"), nil},
		{"ann/door/open", reason(api.WhyAllowed, 4, "ann", "door > hall"), nil},
		{"ann/door/open", reason(api.WhyExcepted, 2, "", ""), nil},
		{"ann/door/open", reason(api.WhyNothing, 0, "", ""), nil},
		{"ann/door/open", reason(api.WhyUnknown, 0, "", ""), nil},
		{"ann/door/read", reason(api.WhyAllowed, 4, "ann", "door"), nil},
		{"ann/door/read", reason(api.WhyExcepted, 1, "", ""), nil},
		{"ann/safe/write", reason(api.WhyDenied, 25, "ann > guard", "safe"), nil},
		{"ann/safe/read", reason(api.WhyNothing, 1, "", ""), nil},
		{"ann/safe/read", reason(0, 0, "", ""), nil},
		{"ann/safe/read", reason(6, 0, "", ""), nil},
	} {
		wantLines(t, p, triple(c.x), c.r, c.want...)
	}
}

// Names stand in the lines as they are, whatever they have in them.
func TestTellOfStrangeNames(t *testing.T) {
	p := api.Policy{Actions: []string{"\n"}, Subjects: []api.Subject{{Name: ""}}, Objects: []string{"a > b"}, Members: []api.Pair{{From: "", To: "\xff \""}, {From: "\xff \"", To: ""}}, Rules: []api.Rule{rule("", "a > b", "")}}
	x := api.Triple{Object: "a > b", Action: "\n"}
	wantLines(t, p, x, why.Explain(p, x), "yes: allowed by rule 1", "who: ", "what: a > b")
	wantLines(t, p, x, api.Reason{Verdict: api.WhyAllowed, Rule: 1, Who: []string{"", "\xff \"", ""}, What: []string{"a > b"}}, "yes: allowed by rule 1", "who:  > \xff \" > ", "what: a > b")
}
