package valid_test

import (
	"math"
	"testing"

	"gatehouse/api"
	"gatehouse/valid"
)

func TestBuildOfNothing(t *testing.T) {
	for _, none := range [][]api.Decl{nil, {}, base()[:0]} {
		wantPolicy(t, none, api.Policy{})
	}
}

func TestWhatIsDeclared(t *testing.T) {
	for _, c := range []struct {
		d    api.Decl
		want api.Policy
	}{
		{api.Decl{Kind: 1, Names: words("open")}, api.Policy{Actions: []string{"open"}}},
		{api.Decl{Kind: 1, Names: words("read", "open", "a b")}, api.Policy{Actions: []string{"read", "open", "a b"}}},
		{api.Decl{Kind: 2, Names: words("ann"), Level: 1}, api.Policy{Subjects: []api.Subject{{Name: "ann", Trust: 1}}}},
		{api.Decl{Kind: 2, Names: words("bob", "ann"), Level: 0.000000001}, api.Policy{Subjects: []api.Subject{{Name: "bob", Trust: 0.000000001}, {Name: "ann", Trust: 0.000000001}}}},
		{api.Decl{Kind: 2, Names: words("ann")}, api.Policy{Subjects: []api.Subject{{Name: "ann"}}}},
		{api.Decl{Kind: 3, Names: words("clerk")}, api.Policy{Roles: []string{"clerk"}}},
		{api.Decl{Kind: 3, Names: words("role", "\"")}, api.Policy{Roles: []string{"role", "\""}}},
		{api.Decl{Kind: 4, Names: words("door")}, api.Policy{Objects: []string{"door"}}},
		{api.Decl{Kind: 4, Names: words("door", "Door", "door ")}, api.Policy{Objects: []string{"door", "Door", "door "}}},
		{api.Decl{Kind: 5, Names: words("doors")}, api.Policy{Groups: []string{"doors"}}},
		{api.Decl{Kind: 5, Names: words("b", "a", "é")}, api.Policy{Groups: []string{"b", "a", "é"}}},
	} {
		wantPolicy(t, []api.Decl{c.d}, c.want)
	}
}

func TestWhatIsUsed(t *testing.T) {
	for _, c := range []struct {
		d   api.Decl
		put func(p *api.Policy)
	}{
		{api.Decl{Kind: 6, Head: word("ann"), Names: words("guard")}, func(p *api.Policy) { p.Members = []api.Pair{{From: "ann", To: "guard"}} }},
		{api.Decl{Kind: 6, Head: word("bob"), Names: words("guard", "clerk")}, func(p *api.Policy) {
			p.Members = []api.Pair{{From: "bob", To: "guard"}, {From: "bob", To: "clerk"}}
		}},
		{api.Decl{Kind: 7, Head: word("guard"), Names: words("guard", "clerk")}, func(p *api.Policy) {
			p.Inherits = []api.Pair{{From: "guard", To: "guard"}, {From: "guard", To: "clerk"}}
		}},
		{api.Decl{Kind: 8, Head: word("ann"), Names: words("building", "doors")}, func(p *api.Policy) {
			p.Parts = []api.Pair{{From: "ann", To: "building"}, {From: "ann", To: "doors"}}
		}},
		{api.Decl{Kind: 9, Head: word("doors"), Names: words("building", "doors")}, func(p *api.Policy) {
			p.Withins = []api.Pair{{From: "doors", To: "building"}, {From: "doors", To: "doors"}}
		}},
		{api.Decl{Kind: 10, Head: word("clerk"), On: word("building"), Names: words("open"), Cond: 1, Level: 0.25}, func(p *api.Policy) {
			p.Rules = []api.Rule{{Who: "clerk", What: "building", Actions: []string{"open"}, Cond: 1, Level: 0.25}}
		}},
		{api.Decl{Kind: 10, Head: word("ann"), On: word("ann"), Names: words("ann", "open"), Cond: 2, Level: 1}, func(p *api.Policy) {
			p.Rules = []api.Rule{{Who: "ann", What: "ann", Actions: []string{"ann", "open"}, Cond: 2, Level: 1}}
		}},
		{api.Decl{Kind: 11, Head: word("guard"), On: word("door"), Names: words("open")}, func(p *api.Policy) {
			p.Rules = []api.Rule{{Deny: true, Who: "guard", What: "door", Actions: []string{"open"}}}
		}},
		{api.Decl{Kind: 11, Head: word("bob"), On: word("doors"), All: true}, func(p *api.Policy) { p.Rules = []api.Rule{{Deny: true, Who: "bob", What: "doors"}} }},
		{api.Decl{Kind: 12, Head: word("ann"), On: word("ann"), Names: words("ann")}, func(p *api.Policy) {
			p.Excepts = []api.Triple{{Subject: "ann", Object: "ann", Action: "ann"}}
		}},
		{api.Decl{Kind: 12, Head: word("bob"), On: word("door"), Names: words("open", "ann")}, func(p *api.Policy) {
			p.Excepts = []api.Triple{{Subject: "bob", Object: "door", Action: "open"}, {Subject: "bob", Object: "door", Action: "ann"}}
		}},
	} {
		want := basePolicy()
		c.put(&want)
		wantPolicy(t, with(c.d), want)
		wantPolicy(t, append([]api.Decl{c.d}, base()...), want)
	}
}

func TestADeclarationWithoutNames(t *testing.T) {
	for kind := int8(1); kind <= 12; kind++ {
		for _, none := range [][]api.Word{nil, {}, words("x")[:0]} {
			want := basePolicy()
			d := api.Decl{Kind: kind, Head: word("ann"), On: word("ann"), Names: none}
			switch kind {
			case api.DeclInherit:
				d.Head = word("guard")
			case api.DeclWithin:
				d.Head = word("doors")
			case api.DeclAllow, api.DeclDeny: // it speaks of all actions then, All or not
				want.Rules = []api.Rule{{Deny: kind == api.DeclDeny, Who: "ann", What: "ann"}}
			}
			wantPolicy(t, with(d), want)
		}
	}
	// A subject's number is asked for where a subject is declared with it.
	wantPolicy(t, []api.Decl{{Kind: api.DeclSubject, Level: math.NaN()}}, api.Policy{})
}

func TestARuleOfAllActions(t *testing.T) {
	want := basePolicy()
	want.Rules = []api.Rule{{Who: "ann", What: "door", Cond: api.Above, Level: 0.5}}
	for _, list := range [][]api.Word{nil, words("open"), words("open", "open"), words("nothing", ""), words("clerk")} {
		wantPolicy(t, with(api.Decl{Kind: 10, Head: word("ann"), On: word("door"), Names: list, All: true, Cond: 1, Level: 0.5}), want)
	}
}

func TestWhatCountsForNothing(t *testing.T) {
	bad, nan := at("\x00", -5, 9), math.NaN()
	decls := []api.Decl{
		{Kind: 1, Line: 9, Head: bad, On: bad, Names: words("open", "ann"), All: true, Cond: 7, Level: nan},
		{Kind: 2, Line: 9, Head: bad, On: bad, Names: words("ann", "bob"), All: true, Cond: -7, Level: 0.5},
		{Kind: 3, Col: -9, Head: bad, On: bad, Names: words("clerk", "guard"), All: true, Cond: 3, Level: nan},
		{Kind: 4, Col: -9, Head: bad, On: bad, Names: words("door", "ann"), All: true, Cond: 3, Level: 2},
		{Kind: 5, Col: -9, Head: bad, On: bad, Names: words("doors", "building"), All: true, Cond: 3, Level: -1},
		{Kind: 6, Head: word("ann"), On: bad, Names: words("clerk"), All: true, Cond: 3, Level: nan},
		{Kind: 7, Head: word("clerk"), On: bad, Names: words("clerk"), All: true, Cond: 3, Level: nan},
		{Kind: 8, Head: word("ann"), On: bad, Names: words("doors"), All: true, Cond: 3, Level: nan},
		{Kind: 9, Head: word("doors"), On: bad, Names: words("doors"), All: true, Cond: 3, Level: nan},
		{Kind: 12, Head: word("ann"), On: word("ann"), Names: words("ann"), All: true, Cond: 3, Level: nan},
	}
	want := basePolicy()
	want.Members = []api.Pair{{From: "ann", To: "clerk"}}
	want.Inherits = []api.Pair{{From: "clerk", To: "clerk"}}
	want.Parts = []api.Pair{{From: "ann", To: "doors"}}
	want.Withins = []api.Pair{{From: "doors", To: "doors"}}
	want.Excepts = []api.Triple{{Subject: "ann", Object: "ann", Action: "ann"}}
	wantPolicy(t, decls, want)
}

// The lists have the order of the declarations, and in each that of its names; other declarations may stand between.
func TestTheOrderOfThings(t *testing.T) {
	rule := api.Decl{Kind: 10, Head: word("r2"), On: word("o1"), Names: words("b", "a")}
	deny := api.Decl{Kind: 11, Head: word("s1"), On: word("g2"), Names: words("c")}
	decls := []api.Decl{
		deny,
		{Kind: 12, Head: word("s2"), On: word("o2"), Names: words("c", "a")},
		{Kind: 6, Head: word("s2"), Names: words("r2", "r1")},
		{Kind: 1, Names: words("b")},
		{Kind: 9, Head: word("g2"), Names: words("g1")},
		{Kind: 2, Names: words("s2"), Level: 0.75},
		rule,
		{Kind: 5, Names: words("g2", "g1")},
		{Kind: 8, Head: word("o2"), Names: words("g1", "g2")},
		{Kind: 4, Names: words("o2")},
		{Kind: 1, Names: words("c", "a")},
		rule,
		{Kind: 3, Names: words("r2", "r1")},
		{Kind: 7, Head: word("r1"), Names: words("r2")},
		{Kind: 12, Head: word("s1"), On: word("o1"), Names: words("b")},
		{Kind: 2, Names: words("s1"), Level: 0.25},
		{Kind: 8, Head: word("o1"), Names: words("g1")},
		{Kind: 9, Head: word("g1"), Names: words("g2")},
		{Kind: 4, Names: words("o1")},
		{Kind: 6, Head: word("s1"), Names: words("r1")},
		{Kind: 7, Head: word("r2"), Names: words("r1", "r2")},
	}
	allow := api.Rule{Who: "r2", What: "o1", Actions: []string{"b", "a"}}
	wantPolicy(t, decls, api.Policy{
		Actions:  []string{"b", "c", "a"},
		Subjects: []api.Subject{{Name: "s2", Trust: 0.75}, {Name: "s1", Trust: 0.25}},
		Roles:    []string{"r2", "r1"},
		Objects:  []string{"o2", "o1"},
		Groups:   []string{"g2", "g1"},
		Members:  []api.Pair{{From: "s2", To: "r2"}, {From: "s2", To: "r1"}, {From: "s1", To: "r1"}},
		Inherits: []api.Pair{{From: "r1", To: "r2"}, {From: "r2", To: "r1"}, {From: "r2", To: "r2"}},
		Parts:    []api.Pair{{From: "o2", To: "g1"}, {From: "o2", To: "g2"}, {From: "o1", To: "g1"}},
		Withins:  []api.Pair{{From: "g2", To: "g1"}, {From: "g1", To: "g2"}},
		Rules:    []api.Rule{{Deny: true, Who: "s1", What: "g2", Actions: []string{"c"}}, allow, allow},
		Excepts:  []api.Triple{{Subject: "s2", Object: "o2", Action: "c"}, {Subject: "s2", Object: "o2", Action: "a"}, {Subject: "s1", Object: "o1", Action: "b"}},
	})
}

func TestOneNameInTwoSpaces(t *testing.T) {
	kinds := []int8{api.DeclAction, api.DeclSubject, api.DeclRole, api.DeclObject, api.DeclGroup}
	space := map[int8]int{api.DeclAction: 1, api.DeclSubject: 2, api.DeclRole: 2, api.DeclObject: 3, api.DeclGroup: 3}
	for _, a := range kinds {
		for _, b := range kinds {
			decls := []api.Decl{{Kind: a, Names: []api.Word{at("ann", 1, 2)}}, {Kind: b, Names: []api.Word{at("ann", 3, 4)}}}
			if space[a] == space[b] {
				wantFault(t, decls, api.Fault{Code: api.ErrTwice, Line: 3, Col: 4, Word: "ann"})
			} else if _, err := valid.Build(decls); err != nil {
				t.Errorf("Build(%v): %v", decls, err)
			}
		}
	}
}
