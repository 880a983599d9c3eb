package why_test

import (
	"testing"

	"gatehouse/api"
	"gatehouse/why"
)

func TestWho(t *testing.T) {
	p := ruled(rule("staff", "floor", "open"), rule("guard", "door", "read"), rule("cat", "lamp", ""), denying(rule("bob", "safe", "")), api.Rule{Deny: true, Who: "clerk", What: "lamp", Actions: []string{"write"}, Cond: api.Above, Level: 1})
	p.Excepts = triples("ann/door/open cat/safe/open")
	for _, c := range []struct{ object, action, want string }{
		{"door", "open", "bob cat"}, {"safe", "open", "ann"}, {"lamp", "open", "ann bob cat"},
		{"door", "read", "ann"}, {"safe", "read", ""}, {"lamp", "read", "cat"},
		{"door", "write", ""}, {"lamp", "write", ""},
		{"floor", "open", ""}, {"gate", "open", ""}, {"door", "shut", ""}, {"gate", "shut", ""}, {"", "", ""}, {"ann", "open", ""}, {"open", "door", ""},
	} {
		wantNames(t, "Who of "+c.object+", "+c.action, why.Who(p, c.object, c.action), c.want)
	}
}

func TestWhat(t *testing.T) {
	p := ruled(rule("staff", "floor", "open"), rule("guard", "door", "read"), rule("cat", "lamp", ""), denying(rule("bob", "safe", "")))
	p.Excepts = triples("ann/door/open cat/safe/open")
	for _, c := range []struct{ subject, action, want string }{
		{"ann", "open", "safe lamp"}, {"bob", "open", "door lamp"}, {"cat", "open", "door lamp"},
		{"ann", "read", "door"}, {"bob", "read", ""}, {"cat", "read", "lamp"}, {"cat", "write", "lamp"}, {"ann", "write", ""},
		{"staff", "open", ""}, {"dan", "open", ""}, {"ann", "shut", ""}, {"dan", "shut", ""}, {"", "", ""}, {"door", "open", ""}, {"open", "ann", ""},
	} {
		wantNames(t, "What of "+c.subject+", "+c.action, why.What(p, c.subject, c.action), c.want)
	}
}

// A name that stands twice is told once, where it stands first; of its trusts the first counts.
func TestNamesThatStandTwice(t *testing.T) {
	p := api.Policy{
		Actions:  []string{"read", "open", "open"},
		Subjects: []api.Subject{{Name: "cat", Trust: 1}, {Name: "ann", Trust: 0.25}, {Name: "cat", Trust: 0}, {Name: "bob", Trust: 0.5}, {Name: "ann", Trust: 1}, {Name: "bob", Trust: 0}},
		Objects:  []string{"safe", "door", "safe", "lamp", "door"},
		Members:  pairs("ann>all bob>all cat>all"),
		Parts:    pairs("safe>any door>any"),
		Rules:    []api.Rule{{Who: "all", What: "any", Actions: []string{"open"}, Cond: api.Above, Level: 0.5}, rule("ann", "lamp", "")},
		Excepts:  triples("cat/safe/open cat/safe/open"),
	}
	wantNames(t, "Who of door", why.Who(p, "door", "open"), "cat bob")
	wantNames(t, "Who of safe", why.Who(p, "safe", "open"), "bob")
	wantNames(t, "Who of lamp", why.Who(p, "lamp", "open"), "ann")
	wantNames(t, "What of bob", why.What(p, "bob", "open"), "safe door")
	wantNames(t, "What of cat", why.What(p, "cat", "open"), "door")
	wantNames(t, "What of ann", why.What(p, "ann", "open"), "lamp")
}

func TestNobodyAndNothing(t *testing.T) {
	if got := why.Who(api.Policy{}, "", ""); len(got) != 0 {
		t.Errorf("Who: %q", got)
	}
	if got := why.What(api.Policy{}, "", ""); len(got) != 0 {
		t.Errorf("What: %q", got)
	}
	empty := api.Policy{Actions: []string{""}, Subjects: subjects("ann"), Objects: []string{""}, Rules: []api.Rule{rule("ann", "", "")}}
	wantNames(t, "Who of empty names", why.Who(empty, "", ""), "ann")
	if got := why.What(empty, "ann", ""); len(got) != 1 || got[0] != "" {
		t.Errorf("What of an object without a name: %q", got)
	}
}

// Actions behind the first sixteen, and more names than a right policy has, count as all do.
func TestMoreThanARightPolicyHas(t *testing.T) {
	p := api.Policy{Rules: []api.Rule{rule("s80", "o90", ""), rule("s99", "o90", "a40"), rule("s80", "o1", "a40")}}
	for k := range 100 {
		p.Actions = append(p.Actions, numbered("a", k))
		p.Subjects = append(p.Subjects, subjects(numbered("s", k))...)
		p.Objects = append(p.Objects, numbered("o", k))
	}
	wantNames(t, "Who", why.Who(p, "o90", "a40"), "s80 s99")
	wantNames(t, "Who", why.Who(p, "o90", "a99"), "s80")
	wantNames(t, "What", why.What(p, "s80", "a40"), "o1 o90")
	wantNames(t, "What", why.What(p, "s80", "a99"), "o90")
	wantReason(t, "far behind", p, triple("s80/o90/a99"), reason(api.WhyAllowed, 1, "s80", "o90"))
	wantReason(t, "far behind", p, triple("s99/o90/a40"), reason(api.WhyAllowed, 2, "s99", "o90"))
}
