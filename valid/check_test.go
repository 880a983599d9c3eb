package valid_test

import (
	"math"
	"slices"
	"testing"

	"gatehouse/api"
	"gatehouse/valid"
)

func wantRight(t *testing.T, p api.Policy) {
	t.Helper()
	if err := valid.Check(p); err != nil {
		t.Errorf("Check(%v): %v", p, err)
	}
}

// wantWrong asks for a fault at 0:0.
func wantWrong(t *testing.T, p api.Policy, code api.Errno, word string) {
	t.Helper()
	if f := faultOf(t, valid.Check(p)); f != (api.Fault{Code: code, Word: word}) {
		t.Errorf("Check(%v) = %v, want %v, %s", p, &f, code, word)
	}
}

// thingByThing are the declarations that 6.3 speaks of, reckoned here once more.
func thingByThing(p api.Policy) []api.Decl {
	var l []api.Decl
	add := func(d api.Decl, names ...string) {
		for _, s := range names {
			d.Names = append(d.Names, word(s))
		}
		l = append(l, d)
	}
	for _, s := range p.Actions {
		add(api.Decl{Kind: api.DeclAction}, s)
	}
	for _, s := range p.Subjects {
		add(api.Decl{Kind: api.DeclSubject, Level: s.Trust}, s.Name)
	}
	for i, list := range [][]string{p.Roles, p.Objects, p.Groups} {
		for _, s := range list {
			add(api.Decl{Kind: api.DeclRole + int8(i)}, s)
		}
	}
	for i, list := range [][]api.Pair{p.Members, p.Inherits, p.Parts, p.Withins} {
		for _, q := range list {
			add(api.Decl{Kind: api.DeclMember + int8(i), Head: word(q.From)}, q.To)
		}
	}
	for _, r := range p.Rules {
		d := api.Decl{Kind: api.DeclAllow, Head: word(r.Who), On: word(r.What), All: len(r.Actions) == 0, Cond: r.Cond, Level: r.Level}
		if r.Deny {
			d.Kind = api.DeclDeny
		}
		add(d, r.Actions...)
	}
	for _, e := range p.Excepts {
		add(api.Decl{Kind: api.DeclExcept, Head: word(e.Subject), On: word(e.Object)}, e.Action)
	}
	return l
}

func TestRightPolicies(t *testing.T) {
	wantRight(t, api.Policy{})
	wantRight(t, basePolicy())
	wantRight(t, full())
	none := full()
	none.Rules[1].Actions, none.Excepts, none.Members = []string{}, []api.Triple{}, []api.Pair{}
	wantRight(t, none)
	for _, trust := range []float64{0, 1, 0.5, 0.1, 0.000000001, 0.999999999} {
		p := full()
		p.Subjects[0].Trust, p.Rules[0].Level, p.Rules[2].Level = trust, trust, trust
		wantRight(t, p)
	}
}

// wrongs are changes that make full wrong, each with the fault's code and word; by the order of the chapter's way.
func wrongs() []struct {
	change func(p *api.Policy)
	code   api.Errno
	word   string
} {
	return []struct {
		change func(p *api.Policy)
		code   api.Errno
		word   string
	}{
		{func(p *api.Policy) { p.Actions = append(p.Actions, "a\n") }, api.ErrName, "a\n"},
		{func(p *api.Policy) { p.Actions = append(p.Actions, "open") }, api.ErrTwice, "open"},
		{func(p *api.Policy) { p.Actions = append(p.Actions, numbered("a", 15)...) }, api.ErrMany, "a15"},
		{func(p *api.Policy) { p.Subjects[0].Name = "" }, api.ErrName, ""},
		{func(p *api.Policy) { p.Subjects[1].Trust = 1.5 }, api.ErrNumber, "bob"},
		{func(p *api.Policy) { p.Subjects[1].Trust = math.Copysign(0, -1) }, api.ErrNumber, "bob"},
		{func(p *api.Policy) { p.Subjects = append(p.Subjects, p.Subjects[1]) }, api.ErrTwice, "bob"},
		{func(p *api.Policy) { p.Roles[1] = "ann" }, api.ErrTwice, "ann"},
		{func(p *api.Policy) { p.Roles = append(p.Roles, numbered("r", 63)...) }, api.ErrMany, "r63"},
		{func(p *api.Policy) { p.Objects = append(p.Objects, "door") }, api.ErrTwice, "door"},
		{func(p *api.Policy) { p.Objects = append(p.Objects, numbered("o", 63)...) }, api.ErrMany, "o63"},
		{func(p *api.Policy) { p.Groups = append(p.Groups, "door") }, api.ErrTwice, "door"},
		{func(p *api.Policy) { p.Groups = append(p.Groups, numbered("g", 64)...) }, api.ErrMany, "g63"},
		{func(p *api.Policy) { p.Members[0].From = "clerk" }, api.ErrUnknown, "clerk"},
		{func(p *api.Policy) { p.Members[1].To = "nobody" }, api.ErrUnknown, "nobody"},
		{func(p *api.Policy) { p.Members[2] = p.Members[0] }, api.ErrTwice, "clerk"},
		{func(p *api.Policy) { p.Inherits[0].From = "ann" }, api.ErrUnknown, "ann"},
		{func(p *api.Policy) { p.Inherits[2] = p.Inherits[0] }, api.ErrTwice, "guard"},
		{func(p *api.Policy) { p.Parts[0].To = "ann" }, api.ErrUnknown, "ann"},
		{func(p *api.Policy) { p.Withins[0].From = "door" }, api.ErrUnknown, "door"},
		{func(p *api.Policy) { p.Withins[1] = p.Withins[0] }, api.ErrTwice, "doors"},
		{func(p *api.Policy) { p.Rules[0].Who = "door" }, api.ErrUnknown, "door"},
		{func(p *api.Policy) { p.Rules[0].What = "guard" }, api.ErrUnknown, "guard"},
		{func(p *api.Policy) { p.Rules[0].Actions = []string{"open", "shut"} }, api.ErrUnknown, "shut"},
		{func(p *api.Policy) { p.Rules[0].Actions = []string{"open", "ann", "open"} }, api.ErrTwice, "open"},
		{func(p *api.Policy) { p.Rules[0].Cond = 3 }, api.ErrArg, "clerk"},
		{func(p *api.Policy) { p.Rules[0].Cond = -1 }, api.ErrArg, "clerk"},
		{func(p *api.Policy) { p.Rules[0].Level = 0.1234567891 }, api.ErrNumber, "clerk"},
		{func(p *api.Policy) { p.Rules[1].Level = 0.5 }, api.ErrNumber, "ann"},
		{func(p *api.Policy) { p.Rules[1].Level = math.NaN() }, api.ErrNumber, "ann"},
		{func(p *api.Policy) { p.Rules[1].Level = math.Copysign(0, -1) }, api.ErrNumber, "ann"},
		{func(p *api.Policy) { p.Rules[2].Level = math.Copysign(0, -1) }, api.ErrNumber, "ann"},
		{func(p *api.Policy) { p.Rules = append(p.Rules, slices.Repeat(p.Rules[4:], 252)...) }, api.ErrMany, "guard"},
		{func(p *api.Policy) { p.Excepts[0].Subject = "guard" }, api.ErrUnknown, "guard"},
		{func(p *api.Policy) { p.Excepts[0].Object = "doors" }, api.ErrUnknown, "doors"},
		{func(p *api.Policy) { p.Excepts[0].Action = "" }, api.ErrUnknown, ""},
		{func(p *api.Policy) { p.Excepts[1] = p.Excepts[0] }, api.ErrTwice, "ann"},
	}
}

func TestWrongPolicies(t *testing.T) {
	for _, w := range wrongs() {
		p := full()
		w.change(&p)
		wantWrong(t, p, w.code, w.word)
	}
	wantWrong(t, api.Policy{Rules: []api.Rule{{Who: "ann"}}}, api.ErrUnknown, "ann")
	wantWrong(t, api.Policy{Excepts: []api.Triple{{}}}, api.ErrUnknown, "")
}

// Of two things that are wrong, or more, Build of the declarations says which one counts.
func TestCheckAgainstBuild(t *testing.T) {
	for _, first := range wrongs() {
		for _, second := range wrongs() {
			p := full()
			first.change(&p)
			second.change(&p)
			_, err := valid.Build(thingByThing(p))
			f := faultOf(t, err)
			if f.Code == api.OK {
				t.Fatalf("%v is right", p)
			}
			wantWrong(t, p, f.Code, f.Word)
		}
	}
}

// repair mends what is wrong first, which is that word.
type repair struct {
	word string
	mend func()
}

// wantRepaired mends a policy thing by thing, until it is right.
func wantRepaired(t *testing.T, p *api.Policy, code api.Errno, repairs []repair) {
	t.Helper()
	for _, r := range repairs {
		wantWrong(t, *p, code, r.word)
		r.mend()
	}
	wantRight(t, *p)
}

// The things are asked in the order of the policy's lists, what is declared ahead of what is used.
func TestTheOrderOfLists(t *testing.T) {
	p := full()
	p.Actions[0], p.Subjects[0].Name, p.Roles[0], p.Objects[0], p.Groups[0] = "\x01", "\x02", "\x03", "\x04", "\x05"
	wantRepaired(t, &p, api.ErrName, []repair{
		{"\x01", func() { p.Actions[0] = "open" }},
		{"\x02", func() { p.Subjects[0].Name = "ann" }},
		{"\x03", func() { p.Roles[0] = "clerk" }},
		{"\x04", func() { p.Objects[0] = "door" }},
		{"\x05", func() { p.Groups[0] = "doors" }},
	})
	p.Members[2].From, p.Inherits[2].From, p.Parts[1].From, p.Withins[2].From, p.Rules[4].Who, p.Excepts[1].Subject = "m", "i", "p", "w", "r", "e"
	wantRepaired(t, &p, api.ErrUnknown, []repair{
		{"m", func() { p.Members[2].From = "ann" }},
		{"i", func() { p.Inherits[2].From = "clerk" }},
		{"p", func() { p.Parts[1].From = "ann" }},
		{"w", func() { p.Withins[2].From = "building" }},
		{"r", func() { p.Rules[4].Who = "guard" }},
		{"e", func() { p.Excepts[1].Subject = "bob" }},
	})
}
