package diff_test

import (
	"math"
	"slices"
	"testing"

	"gatehouse/api"
	"gatehouse/diff"
)

// 13.1, 13.2 and 13.4: which changes, in which order, and whether there are any.

func TestAllLostAndAllGained(t *testing.T) {
	empty := api.Policy{
		Actions: []string{}, Subjects: []api.Subject{}, Roles: []string{}, Objects: []string{}, Groups: []string{},
		Members: []api.Pair{}, Inherits: []api.Pair{}, Parts: []api.Pair{}, Withins: []api.Pair{}, Rules: []api.Rule{}, Excepts: []api.Triple{},
	}
	all := []api.Policy{{}, empty, policy("x y/d/o p", ""), policy("//", "x/d/o")}
	for _, a := range all {
		for _, b := range all {
			wantChanges(t, "policies that allow nothing", a, b, "")
		}
		some := policy("y x/d/o p", "x/d/o y/d/p")
		wantChanges(t, "all gained", a, some, "+y/d/p +x/d/o")
		wantChanges(t, "all lost", some, a, "-y/d/p -x/d/o")
	}
}

func TestTheSameByOtherRules(t *testing.T) {
	plain := policy("x y/d e/o p", "x/d/o x/d/p y/d/o y/d/p")
	others := map[string]func(p *api.Policy){
		"all actions":   func(p *api.Policy) { p.Rules = []api.Rule{{Who: "x", What: "d"}, {Who: "y", What: "d"}} },
		"the other way": func(p *api.Policy) { slices.Reverse(p.Rules) },
		"twice":         func(p *api.Policy) { p.Rules = append(p.Rules, p.Rules...) },
		"by a role":     func(p *api.Policy) { p.Members, p.Rules = pairs("x>r y>r"), []api.Rule{{Who: "r", What: "d"}} },
		"by a group": func(p *api.Policy) {
			p.Parts, p.Rules = pairs("d>g"), []api.Rule{{Who: "x", What: "g"}, {Who: "y", What: "g"}}
		},
		"above 1":            func(p *api.Policy) { p.Rules[0].Cond, p.Rules[0].Level = api.Above, 1 },
		"a rule for nobody":  func(p *api.Policy) { p.Rules = append(p.Rules, api.Rule{Deny: true, Who: "z", What: "d"}) },
		"an except for none": func(p *api.Policy) { p.Excepts = triples("x/e/o z/d/o x/d/q") },
		"more, and denied": func(p *api.Policy) {
			p.Members, p.Rules = pairs("x>r y>r"), []api.Rule{{Who: "r", What: "d"}, {Who: "r", What: "e"}, {Deny: true, Who: "r", What: "e"}}
		},
		"more, and excepted": func(p *api.Policy) {
			p.Rules, p.Excepts = append(p.Rules, api.Rule{Who: "x", What: "e"}), triples("x/e/p x/e/o")
		},
		"subjects the other way": func(p *api.Policy) { slices.Reverse(p.Subjects) },
		"objects the other way":  func(p *api.Policy) { slices.Reverse(p.Objects) },
		"actions the other way":  func(p *api.Policy) { slices.Reverse(p.Actions) },
		"everything the other way": func(p *api.Policy) {
			slices.Reverse(p.Subjects)
			slices.Reverse(p.Objects)
			slices.Reverse(p.Actions)
		},
		"more names": func(p *api.Policy) {
			p.Subjects, p.Objects, p.Actions = append([]api.Subject{{Name: "z"}}, p.Subjects...), append(p.Objects, "f"), append([]string{"q"}, p.Actions...)
		},
	}
	for what, change := range others {
		p := policy("x y/d e/o p", "x/d/o x/d/p y/d/o y/d/p")
		change(&p)
		wantChanges(t, what, plain, p, "")
		wantChanges(t, what+", from there", p, plain, "")
	}
}

func TestOneTripleMoreOrLess(t *testing.T) {
	all := "x/d/o x/d/p x/e/o x/e/p y/d/o y/d/p y/e/o y/e/p"
	full := policy("x y/d e/o p", all)
	for _, x := range triples(all) {
		less := policy("x y/d e/o p", all)
		less.Excepts = []api.Triple{x}
		name := x.Subject + "/" + x.Object + "/" + x.Action
		wantChanges(t, "one less", full, less, "-"+name)
		wantChanges(t, "one more", less, full, "+"+name)
		wantChanges(t, "one alone", policy("x y/d e/o p", ""), policy("y x/e d/p o", name), "+"+name)
	}
}

// What is lost goes by the first policy's lists, what is gained by the second's, whatever the other one's are.
func TestTheOrderOfChanges(t *testing.T) {
	const even, odd = "x/d/o x/e/p y/d/p y/e/o", "x/d/p x/e/o y/d/o y/e/p"
	const both = "x/d/o x/d/p x/e/o y/e/o"
	for _, c := range []struct {
		what, aLists, a, bLists, b string
		want                       string
	}{
		{"one order", "x y/d e/o p", even, "x y/d e/o p", odd, "-x/d/o -x/e/p -y/d/p -y/e/o +x/d/p +x/e/o +y/d/o +y/e/p"},
		{"other subjects", "x y/d e/o p", even, "y x/d e/o p", odd, "-x/d/o -x/e/p -y/d/p -y/e/o +y/d/o +y/e/p +x/d/p +x/e/o"},
		{"other objects", "x y/d e/o p", even, "x y/e d/o p", odd, "-x/d/o -x/e/p -y/d/p -y/e/o +x/e/o +x/d/p +y/e/p +y/d/o"},
		{"other actions", "x y/d/o p", "x/d/o x/d/p", "x y/d/p o", "y/d/o y/d/p", "-x/d/o -x/d/p +y/d/p +y/d/o"},
		{"the other way", "y x/e d/p o", even, "x y/d e/o p", odd, "-y/e/o -y/d/p -x/e/p -x/d/o +x/d/p +x/e/o +y/d/o +y/e/p"},
		{"some in common", "y x/e d/p o", both, "x y/d e/o p", odd, "-y/e/o -x/d/o +y/d/o +y/e/p"},
		{"some in common, back", "x y/d e/o p", odd, "y x/e d/p o", both, "-y/d/o -y/e/p +y/e/o +x/d/o"},
		{"the names in part", "x y/d e/o p", even, "y z/e f/p q", "y/e/p z/f/q z/e/q y/f/q", "-x/d/o -x/e/p -y/d/p -y/e/o +y/e/p +y/f/q +z/e/q +z/f/q"},
		{"no name in common", "x y/d e/o p", even, "w v/g f/r q", "v/f/q w/g/r w/f/q", "-x/d/o -x/e/p -y/d/p -y/e/o +w/g/r +w/f/q +v/f/q"},
	} {
		wantChanges(t, c.what, policy(c.aLists, c.a), policy(c.bLists, c.b), c.want)
	}
}

// Names that would be one text if they were put one behind the other, and names that are of several kinds.
func TestTriplesAreHeldApart(t *testing.T) {
	one := func(x api.Triple) api.Policy {
		return api.Policy{Subjects: []api.Subject{{Name: x.Subject}}, Objects: []string{x.Object}, Actions: []string{x.Action}, Rules: []api.Rule{{Who: x.Subject, What: x.Object}}}
	}
	all := []api.Triple{
		{Subject: "a", Object: "bc", Action: "d"}, {Subject: "ab", Object: "c", Action: "d"}, {Subject: "a", Object: "b", Action: "cd"},
		{Subject: "a", Object: "b", Action: "c"}, {Subject: "b", Object: "a", Action: "c"}, {Subject: "c", Object: "b", Action: "a"}, {Subject: "a", Object: "c", Action: "b"},
		{Subject: "", Object: "", Action: ""}, {Subject: "a", Object: "", Action: ""}, {Subject: "", Object: "a", Action: ""}, {Subject: "", Object: "", Action: "a"},
		{Subject: "a/b", Object: "c", Action: "d"}, {Subject: "a", Object: "b/c", Action: "d"}, {Subject: "a", Object: "b", Action: "c/d"},
		{Subject: "a\x00b", Object: "c", Action: "d"}, {Subject: "a", Object: "b\x00c", Action: "d"}, {Subject: "A", Object: "b", Action: "c"},
		{Subject: "\xff", Object: "b", Action: "c"}, {Subject: "\xfe", Object: "b", Action: "c"}, {Subject: "\uFFFD", Object: "b", Action: "c"},
	}
	for i, x := range all {
		for j, y := range all {
			var want []api.Change
			if i != j {
				want = []api.Change{{Triple: x}, {Triple: y, Gained: true}}
			}
			if got := diff.List(one(x), one(y)); !slices.Equal(got, want) || diff.Same(one(x), one(y)) != (i == j) {
				t.Errorf("from %q to %q: %q", x, y, written(got))
			}
		}
	}
}

// Policies that are not right are taken too.
func TestPoliciesThatAreNotRight(t *testing.T) {
	right := policy("x y/d e/o p", "x/d/o y/e/p")
	for _, c := range []struct {
		what   string
		change func(p *api.Policy)
		want   string
	}{
		{"all names twice", func(p *api.Policy) {
			p.Subjects, p.Objects, p.Actions = append(p.Subjects, p.Subjects...), append(p.Objects, p.Objects...), append(p.Actions, p.Actions...)
		}, ""},
		{"all names twice, and one more rule", func(p *api.Policy) {
			p.Subjects, p.Objects, p.Actions = append(p.Subjects, p.Subjects...), append(p.Objects, p.Objects...), append(p.Actions, p.Actions...)
			p.Rules = append(p.Rules, api.Rule{Who: "x", What: "e", Actions: []string{"p", "p"}}, api.Rule{Who: "x", What: "e", Actions: []string{"p"}})
		}, "+x/e/p"},
		{"a name stands first elsewhere", func(p *api.Policy) {
			p.Subjects, p.Rules = append([]api.Subject{{Name: "y"}}, p.Subjects...), []api.Rule{{Who: "x", What: "d", Actions: []string{"p"}}, {Who: "y", What: "d", Actions: []string{"p"}}}
		}, "-x/d/o -y/e/p +y/d/p +x/d/p"},
		{"the first trust counts", func(p *api.Policy) {
			p.Subjects = append([]api.Subject{{Name: "x", Trust: 0}}, p.Subjects...)
			p.Rules[0].Cond, p.Rules[0].Level = api.Above, 0.5
		}, "-x/d/o"},
		{"rules of names that are not there", func(p *api.Policy) {
			p.Rules = append(p.Rules, api.Rule{Who: "z", What: "d"}, api.Rule{Who: "x", What: "f"}, api.Rule{Who: "x", What: "d", Actions: []string{"q"}}, api.Rule{Deny: true, Who: "y", What: "e", Actions: []string{"q"}})
		}, ""},
		{"excepts of names that are not there", func(p *api.Policy) { p.Excepts = triples("z/d/o x/f/o x/d/q // d/x/o") }, ""},
		{"an except twice", func(p *api.Policy) { p.Excepts = triples("x/d/o x/d/o") }, "-x/d/o"},
		{"a name taken out", func(p *api.Policy) { p.Subjects = p.Subjects[1:] }, "-x/d/o"},
		{"rings", func(p *api.Policy) {
			p.Inherits, p.Withins = pairs("x>r r>s s>r s>x x>x"), pairs("d>g g>d g>e e>g")
			p.Rules = []api.Rule{{Who: "s", What: "g", Actions: []string{"o"}}}
		}, "-y/e/p +x/e/o"},
		{"a subject of another's name", func(p *api.Policy) { p.Members = pairs("x>y") }, "+x/e/p"},
		{"conditions of no kind, and no numbers", func(p *api.Policy) {
			p.Rules[0].Cond = 3
			p.Rules[1].Cond, p.Rules[1].Level = api.Below, math.NaN()
		}, "-x/d/o -y/e/p"},
		{"trusts that are no numbers", func(p *api.Policy) {
			p.Subjects[0].Trust = math.NaN()
			p.Rules[0].Cond, p.Rules[1].Cond = api.Above, api.Above
		}, "-x/d/o"},
		{"names of several kinds", func(p *api.Policy) {
			p.Subjects, p.Objects, p.Actions = append(p.Subjects, api.Subject{Name: "d"}), append(p.Objects, "x"), append(p.Actions, "x")
			p.Rules = append(p.Rules, api.Rule{Who: "d", What: "x", Actions: []string{"x"}})
		}, "+d/x/x"},
		{"the empty name", func(p *api.Policy) {
			p.Subjects, p.Objects, p.Actions = append(p.Subjects, api.Subject{}), append(p.Objects, ""), append(p.Actions, "")
			p.Rules = append(p.Rules, api.Rule{})
		}, "+//o +//p +//"},
	} {
		p := policy("x y/d e/o p", "x/d/o y/e/p")
		c.change(&p)
		wantChanges(t, c.what, right, p, c.want)
		wantChanges(t, c.what+", and itself", p, p, "")
	}
}

func TestSame(t *testing.T) {
	a, b := load(t, firstText), load(t, secondText)
	less, more := policy("x y/d/o p", "x/d/o"), policy("x y/d/o p", "x/d/o y/d/o")
	for _, c := range []struct {
		what string
		a, b api.Policy
		want bool
	}{
		{"the first one and itself", a, a, true},
		{"the first and the second, of as many triples", a, b, false},
		{"the second and the first", b, a, false},
		{"one has more", less, more, false},
		{"one has less", more, less, false},
		{"nothing and something", api.Policy{}, less, false},
		{"something and nothing", less, api.Policy{}, false},
		{"nothing and nothing", api.Policy{}, policy("x/d/o", ""), true},
		{"the same in another order", more, policy("y x/d/p o", "y/d/o x/d/o"), true},
		{"names that say nothing", less, policy("x/d/o", "x/d/o"), true},
	} {
		if got := diff.Same(c.a, c.b); got != c.want {
			t.Errorf("%s: %v", c.what, got)
		}
	}
}
