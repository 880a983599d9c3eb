package canon_test

import (
	"math"
	"slices"
	"strings"
	"testing"

	"gatehouse/api"
	"gatehouse/canon"
)

// full is a policy with two items of every sort.
func full() api.Policy {
	return api.Policy{
		Actions:  []string{"open", "read"},
		Subjects: []api.Subject{{Name: "ann", Trust: 0.5}, {Name: "the night watch", Trust: 1}},
		Roles:    []string{"clerk", "role"},
		Objects:  []string{"door1", "vault"},
		Groups:   []string{"doors", "building"},
		Members:  []api.Pair{{From: "ann", To: "clerk"}, {From: "ann", To: "role"}},
		Inherits: []api.Pair{{From: "role", To: "clerk"}, {From: "clerk", To: "role"}},
		Parts:    []api.Pair{{From: "door1", To: "doors"}, {From: "vault", To: "doors"}},
		Withins:  []api.Pair{{From: "doors", To: "building"}, {From: "building", To: "doors"}},
		Rules: []api.Rule{
			{Who: "clerk", What: "building", Actions: []string{"open", "read"}, Cond: api.Above, Level: 0.25},
			{Deny: true, Who: "role", What: "vault", Level: 0.75},
			{Deny: true, Who: "ann", What: "vault", Actions: []string{}, Cond: api.Below, Level: 1},
			{Who: "ann", What: "door1", Actions: []string{"read"}, Level: math.NaN()},
		},
		Excepts: []api.Triple{{Subject: "ann", Object: "door1", Action: "read"}, {Subject: "ann", Object: "vault", Action: "open"}},
	}
}

const fullText = `action open;
action read;
subject ann trust 0.5;
subject "the night watch";
role clerk;
role "role";
object door1;
object vault;
group doors;
group building;
member ann : clerk;
member ann : "role";
inherit "role" : clerk;
inherit clerk : "role";
part door1 : doors;
part vault : doors;
within doors : building;
within building : doors;
allow clerk on building : open, read above 0.25;
deny "role" on vault : *;
deny ann on vault : * below 1;
allow ann on door1 : read;
except ann on door1 : read;
except ann on vault : open;
`

func wantDecls(t *testing.T, p api.Policy, want []api.Decl) {
	t.Helper()
	if got := canon.Decls(p); !slices.EqualFunc(got, want, same) {
		t.Errorf("Decls(%v):\n%v, want\n%v", p, got, want)
	}
}

func wantText(t *testing.T, p api.Policy, want string) {
	t.Helper()
	if got, e := canon.Text(p); got != want || e != api.OK {
		t.Errorf("Text(%v): %q, %v, want %q", p, got, e, want)
	}
}

func wantNoText(t *testing.T, p api.Policy, want api.Errno) {
	t.Helper()
	if got, e := canon.Text(p); got != "" || e != want {
		t.Errorf("Text(%v): %q, %v, want %v", p, got, e, want)
	}
}

func TestDeclsOfEverySort(t *testing.T) {
	wantDecls(t, full(), []api.Decl{
		{Kind: 1, Names: words("open")},
		{Kind: 1, Names: words("read")},
		{Kind: 2, Names: words("ann"), Level: 0.5},
		{Kind: 2, Names: words("the night watch"), Level: 1},
		{Kind: 3, Names: words("clerk")},
		{Kind: 3, Names: words("role")},
		{Kind: 4, Names: words("door1")},
		{Kind: 4, Names: words("vault")},
		{Kind: 5, Names: words("doors")},
		{Kind: 5, Names: words("building")},
		{Kind: 6, Head: word("ann"), Names: words("clerk")},
		{Kind: 6, Head: word("ann"), Names: words("role")},
		{Kind: 7, Head: word("role"), Names: words("clerk")},
		{Kind: 7, Head: word("clerk"), Names: words("role")},
		{Kind: 8, Head: word("door1"), Names: words("doors")},
		{Kind: 8, Head: word("vault"), Names: words("doors")},
		{Kind: 9, Head: word("doors"), Names: words("building")},
		{Kind: 9, Head: word("building"), Names: words("doors")},
		{Kind: 10, Head: word("clerk"), On: word("building"), Names: words("open", "read"), Cond: api.Above, Level: 0.25},
		{Kind: 11, Head: word("role"), On: word("vault"), All: true},
		{Kind: 11, Head: word("ann"), On: word("vault"), All: true, Cond: api.Below, Level: 1},
		{Kind: 10, Head: word("ann"), On: word("door1"), Names: words("read")},
		{Kind: 12, Head: word("ann"), On: word("door1"), Names: words("read")},
		{Kind: 12, Head: word("ann"), On: word("vault"), Names: words("open")},
	})
}

func TestDeclsOfWhatIsNotRight(t *testing.T) {
	nan, below := math.NaN(), math.Copysign(0, -1)
	wantDecls(t, api.Policy{
		Actions:  []string{"", "\xff", strings.Repeat("x", 40)},
		Subjects: []api.Subject{{}, {Name: "\n", Trust: nan}, {Name: "a", Trust: below}},
		Members:  []api.Pair{{}},
		Rules:    []api.Rule{{}, {Cond: 7, Level: nan}, {Deny: true, Cond: -1, Level: below, Actions: []string{"", "a", "a"}}, {Level: 3}},
		Excepts:  []api.Triple{{}},
	}, []api.Decl{
		{Kind: 1, Names: words("")}, {Kind: 1, Names: words("\xff")}, {Kind: 1, Names: words(strings.Repeat("x", 40))},
		{Kind: 2, Names: words("")}, {Kind: 2, Names: words("\n"), Level: nan}, {Kind: 2, Names: words("a"), Level: below},
		{Kind: 6, Names: words("")},
		{Kind: 10, All: true}, {Kind: 10, All: true, Cond: 7, Level: nan}, {Kind: 11, Cond: -1, Level: below, Names: words("", "a", "a")}, {Kind: 10, All: true},
		{Kind: 12, Names: words("")},
	})
	wantDecls(t, api.Policy{}, nil)
	wantDecls(t, api.Policy{Actions: []string{}, Rules: []api.Rule{}}, nil)
}

func TestTextOfEverySort(t *testing.T) {
	wantText(t, full(), fullText)
	wantText(t, api.Policy{}, "")
	wantText(t, api.Policy{Actions: []string{}, Subjects: []api.Subject{}, Excepts: []api.Triple{}}, "")
	wantText(t, api.Policy{
		Actions:  []string{"open"},
		Subjects: []api.Subject{{Name: "ann", Trust: 1}},
		Objects:  []string{"door"},
		Rules:    []api.Rule{{Who: "ann", What: "door"}},
	}, "action open;\nsubject ann;\nobject door;\nallow ann on door : *;\n")
}

// A policy need not be right to have a text: not its names to be known, nor its items to be few.
func TestTextOfWhatIsNotRight(t *testing.T) {
	wantText(t, api.Policy{Roles: []string{"a", "a"}, Members: []api.Pair{{From: "nobody", To: "nothing"}}}, "role a;\nrole a;\nmember nobody : nothing;\n")
	line := "object " + strings.Repeat("x", 32) + ";\n"
	wantText(t, api.Policy{Objects: slices.Repeat([]string{strings.Repeat("x", 32)}, 10000)}, strings.Repeat(line, 10000))
}

func TestTextIsTheLinesOfDecls(t *testing.T) {
	var b strings.Builder
	for _, d := range canon.Decls(full()) {
		line, e := canon.Decl(d)
		if e != api.OK {
			t.Fatal(d, e)
		}
		b.WriteString(line + "\n")
	}
	wantText(t, full(), b.String())
}

// spoilings are ways to spoil an item of each sort, in the order of the sorts, and what is told then.
func spoilings() []struct {
	spoil func(p *api.Policy)
	e     api.Errno
} {
	return []struct {
		spoil func(p *api.Policy)
		e     api.Errno
	}{
		{func(p *api.Policy) { p.Actions[1] = "" }, api.ErrName},
		{func(p *api.Policy) { p.Subjects[0].Trust = 2 }, api.ErrNumber},
		{func(p *api.Policy) { p.Subjects[1].Name = "" }, api.ErrName},
		{func(p *api.Policy) { p.Roles[0] = "\n" }, api.ErrName},
		{func(p *api.Policy) { p.Objects[1] = "" }, api.ErrName},
		{func(p *api.Policy) { p.Groups[0] = "" }, api.ErrName},
		{func(p *api.Policy) { p.Members[0].From = "" }, api.ErrName},
		{func(p *api.Policy) { p.Inherits[1].To = "" }, api.ErrName},
		{func(p *api.Policy) { p.Parts[0].From = "" }, api.ErrName},
		{func(p *api.Policy) { p.Withins[1].To = "" }, api.ErrName},
		{func(p *api.Policy) { p.Rules[0].Level = math.NaN() }, api.ErrNumber},
		{func(p *api.Policy) { p.Rules[1].Cond = 7 }, api.ErrArg},
		{func(p *api.Policy) { p.Rules[2].What = "" }, api.ErrName},
		{func(p *api.Policy) { p.Rules[3].Cond = -1 }, api.ErrArg},
		{func(p *api.Policy) { p.Excepts[1].Object = "" }, api.ErrName},
	}
}

func TestTextIsRefusedByItsFirstItem(t *testing.T) {
	for i, first := range spoilings() {
		p := full()
		first.spoil(&p)
		wantNoText(t, p, first.e)
		for _, second := range spoilings()[i+1:] {
			p := full()
			first.spoil(&p)
			second.spoil(&p)
			wantNoText(t, p, first.e)
		}
	}
	wantNoText(t, api.Policy{Rules: []api.Rule{{Who: "a", What: "b", Cond: 7}}}, api.ErrArg)
	wantNoText(t, api.Policy{Subjects: []api.Subject{{Trust: 1}}}, api.ErrName)
	wantNoText(t, api.Policy{Subjects: []api.Subject{{Name: "a", Trust: 2}}, Actions: []string{""}}, api.ErrName)
}
