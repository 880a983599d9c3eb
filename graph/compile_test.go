package graph_test

import (
	"math"
	"slices"
	"testing"

	"gatehouse/api"
	"gatehouse/graph"
	"gatehouse/mean"
)

func TestClassesAreNumberedByTheirFirstMembers(t *testing.T) {
	for _, c := range []struct {
		what string
		p    api.Policy
		want api.Graph
	}{
		{
			"the first members come in another order than their names",
			allowing("x", "zoe ann mia bob", "west east north", "ann/west/x bob/west/x mia/east/x mia/north/x"),
			made("x", "zoe ann mia bob", "west east north", "1 2 3 2", "1 2 2", "0 0", "1 0", "0 1"),
		},
		{
			"nor in the order of their masks",
			allowing("x y", "a b c", "o", "a/o/x a/o/y b/o/y"),
			made("x y", "a b c", "o", "1 2 3", "1", "3", "2", "0"),
		},
		{
			"a class that comes again behind another one",
			allowing("x", "a b c d e", "o p", "a/o/x c/o/x e/o/x"),
			made("x", "a b c d e", "o p", "1 2 1 2 1", "1 2", "1 0", "0 0"),
		},
		{
			"the same masks at other places are not the same",
			allowing("x", "a b", "o p", "a/o/x b/p/x"),
			made("x", "a b", "o p", "1 2", "1 2", "1 0", "0 1"),
		},
		{
			"the same places with other bits are not the same",
			allowing("x y", "a b", "o p", "a/o/x b/o/y"),
			made("x y", "a b", "o p", "1 2", "1 2", "1 0", "2 0"),
		},
		{
			"objects differ by one subject alone",
			allowing("x", "a b c", "o p q", "a/o/x b/o/x c/o/x a/p/x b/p/x a/q/x b/q/x c/q/x"),
			made("x", "a b c", "o p q", "1 1 2", "1 2 1", "1 1", "1 0"),
		},
		{
			"a class does not hang on names: one stands in all three lists",
			allowing("n m", "n m", "n m", "n/m/n m/n/m"),
			made("n m", "n m", "n m", "1 2", "1 2", "0 1", "2 0"),
		},
		{
			"all that is allowed is in one class",
			api.Policy{Actions: []string{"x", "y"}, Subjects: subjects("a", "b"), Objects: []string{"o", "p"}, Groups: []string{"g"}, Roles: []string{"r"},
				Members: []api.Pair{{From: "a", To: "r"}, {From: "b", To: "r"}}, Parts: []api.Pair{{From: "o", To: "g"}, {From: "p", To: "g"}}, Rules: []api.Rule{rule("r", "g", "")}},
			made("x y", "a b", "o p", "1 1", "1 1", "3"),
		},
	} {
		wantGraph(t, c.what, c.p, c.want)
		wantValid(t, c.what, c.want, true)
	}
}

// Trusts, denials and excepts part those who have the same roles.
func TestClassesGoByWhatIsAllowed(t *testing.T) {
	p := load(t, `
		action open, read; subject a, b trust 0.5; subject c, d trust 0.75; role r, s; object o, p, q; group g;
		member a : r; member b : r; member c : r; member d : s; part o : g; part p : g;
		allow r on g : *; allow s on g : open, read; deny r on p : read below 0.75; allow r on q : open above 0.75; except d on p : open;`)
	wantGraph(t, "parted", p, made("open read", "a b c d", "o p q", "1 1 2 3", "1 2 3", "3 1 0", "3 3 1", "3 2 0"))
	p.Excepts = append(p.Excepts, triple("c/q/open"), triple("c/p/open"))
	wantGraph(t, "those who have other roles and may the same are alike", p, made("open read", "a b c d", "o p q", "1 1 2 2", "1 2 3", "3 1 0", "3 2 0"))
}

func TestNothingOnOneSide(t *testing.T) {
	rules := []api.Rule{rule("a", "o", ""), rule("", "", ""), rule("b", "b", "x")}
	for _, c := range []struct {
		what string
		p    api.Policy
		want api.Graph
	}{
		{"nothing at all", api.Policy{}, api.Graph{}},
		{"rules alone", api.Policy{Rules: rules}, api.Graph{}},
		{"actions alone", api.Policy{Actions: []string{"x", "y"}, Rules: rules}, made("x y", "", "", "", "")},
		{"no objects", api.Policy{Actions: []string{"x"}, Subjects: subjects("a", "b", "c"), Rules: rules}, made("x", "a b c", "", "1 1 1", "", "")},
		{"no objects, one subject", api.Policy{Subjects: subjects("a")}, made("", "a", "", "1", "", "")},
		{"no subjects", api.Policy{Actions: []string{"x"}, Objects: []string{"o", "p", "q"}, Rules: rules}, made("x", "", "o p q", "", "1 1 1")},
		{"no subjects, one object", api.Policy{Objects: []string{"o"}}, made("", "", "o", "", "1")},
		{"no actions", api.Policy{Subjects: subjects("a", "b"), Objects: []string{"o", "p"}, Rules: rules}, made("", "a b", "o p", "1 1", "1 1", "0")},
		{"roles and groups are neither subjects nor objects", api.Policy{Actions: []string{"x"}, Roles: []string{"a"}, Groups: []string{"o"}, Rules: rules}, made("x", "", "", "", "")},
	} {
		wantGraph(t, c.what, c.p, c.want)
		wantValid(t, c.what, c.want, true)
	}
}

func numbered(text string, n int) []string {
	var l []string
	for k := range n {
		l = append(l, text+string(rune('0'+k/10))+string(rune('0'+k%10)))
	}
	return l
}

// many has so many of each; the subject k may do the action k mod the actions with the object k.
func many(actions, subjectCount, objects int) api.Policy {
	p := api.Policy{Actions: numbered("a", actions), Subjects: subjects(numbered("s", subjectCount)...), Objects: numbered("o", objects)}
	for k := range min(subjectCount, objects) {
		if actions > 0 {
			p.Rules = append(p.Rules, rule(p.Subjects[k].Name, p.Objects[k], p.Actions[k%actions]))
		}
	}
	return p
}

func TestLimits(t *testing.T) {
	for _, c := range []struct {
		actions, subjects, objects int
		zero                       bool
	}{
		{16, 64, 64, false}, {16, 1, 1, false}, {16, 0, 0, false}, {0, 64, 64, false}, {1, 64, 1, false}, {1, 1, 64, false}, {0, 64, 0, false}, {0, 0, 64, false},
		{17, 64, 64, true}, {17, 1, 1, true}, {17, 0, 0, true}, {16, 65, 64, true}, {16, 64, 65, true}, {0, 65, 0, true}, {0, 0, 65, true}, {1, 65, 1, true}, {1, 1, 65, true}, {17, 65, 65, true}, {1, 1, 5000, true}, {5000, 1, 1, true}, {1, 5000, 1, true},
	} {
		p := many(c.actions, c.subjects, c.objects)
		if c.zero {
			wantGraph(t, "beyond the limits", p, api.Graph{})
			continue
		}
		wantGraph(t, "at the limits", p, slowCompile(p))
		wantValid(t, "at the limits", graph.Compile(p), true)
	}
	full := graph.Compile(many(16, 64, 64))
	if len(full.Masks) != 64 || full.Of[63] != 64 || full.On[63] != 64 || full.Masks[63][63] != 1<<15 || full.Masks[15][15] != 1<<15 || full.Masks[16][16] != 1 || full.Masks[63][62] != 0 {
		t.Errorf("%+v", full)
	}
}

// The 64th subject and the 64th object part classes by themselves.
func TestTheLastPlaces(t *testing.T) {
	p := api.Policy{Actions: numbered("a", 16), Subjects: subjects(numbered("s", 64)...), Objects: numbered("o", 64)}
	p.Rules = []api.Rule{rule("s63", "o63", "a15")}
	of := append(slices.Repeat([]int{1}, 63), 2)
	want := api.Graph{Actions: p.Actions, Subjects: numbered("s", 64), Objects: p.Objects, Of: of, On: of, Masks: rows("0 0", "0 32768")}
	wantGraph(t, "the last of each", p, want)
	p.Rules = append(p.Rules, rule("s00", "o63", "a15"), rule("s63", "o00", ""))
	want.Of, want.Masks = append([]int{1}, append(slices.Repeat([]int{2}, 62), 3)...), rows("0 0 32768", "0 0 0", "65535 0 32768")
	want.On = want.Of
	wantGraph(t, "the first and the last", p, want)
}

// Beyond the limits are actions, subjects and objects alone: of the rest there may be any number.
func TestFarMoreThanARightPolicyHas(t *testing.T) {
	p := many(16, 64, 64)
	plain := graph.Compile(p)
	for k := range 5000 {
		from, to := numbered("n", 90)[k%90], numbered("n", 90)[(k+1+k/90)%90]
		p.Members, p.Inherits = append(p.Members, api.Pair{From: from, To: to}), append(p.Inherits, api.Pair{From: to, To: from})
		p.Parts, p.Withins = append(p.Parts, api.Pair{From: from, To: to}), append(p.Withins, api.Pair{From: to, To: from})
		p.Roles, p.Groups = append(p.Roles, from), append(p.Groups, to)
		p.Rules = append(p.Rules, rule(from, to, "a00"))
		p.Excepts = append(p.Excepts, api.Triple{Subject: from, Object: to, Action: "a00"})
	}
	wantGraph(t, "pairs, rules and excepts of others", p, plain)
	p.Members, p.Parts = append(p.Members, api.Pair{From: "s63", To: "n00"}), append(p.Parts, api.Pair{From: "o62", To: "n89"})
	got := graph.Compile(p)
	if got.Masks[63][62] != 1 || got.Masks[62][63] != 0 || got.Masks[63][63] != 1<<15 {
		t.Errorf("%v", got.Masks[62:])
	}
}

func TestPoliciesThatAreNotRight(t *testing.T) {
	wantGraph(t, "names that stand twice",
		allowing("x y x", "a b a", "o o p", "a/o/x b/p/y"),
		made("x y x", "a b a", "o o p", "1 2 1", "1 1 2", "5 0", "0 2"))
	wantGraph(t, "one name alone, many times",
		api.Policy{Actions: slices.Repeat([]string{"x"}, 16), Subjects: subjects(slices.Repeat([]string{"a"}, 64)...), Objects: slices.Repeat([]string{"o"}, 64), Rules: []api.Rule{rule("a", "o", "x")}},
		api.Graph{Actions: slices.Repeat([]string{"x"}, 16), Subjects: slices.Repeat([]string{"a"}, 64), Objects: slices.Repeat([]string{"o"}, 64), Of: slices.Repeat([]int{1}, 64), On: slices.Repeat([]int{1}, 64), Masks: rows("65535")})

	twice := api.Policy{Actions: []string{"x"}, Subjects: []api.Subject{{Name: "a", Trust: 0}, {Name: "b", Trust: 1}, {Name: "a", Trust: 1}}, Objects: []string{"o"}}
	twice.Rules = []api.Rule{{Who: "a", What: "o", Cond: api.Above, Level: 0.5}, {Who: "b", What: "o", Cond: api.Above, Level: 0.5}}
	wantGraph(t, "of two trusts the first counts", twice, made("x", "a b a", "o", "1 2 1", "1", "0", "1"))

	strange := api.Policy{Actions: []string{"", "\xff"}, Subjects: []api.Subject{{Name: "", Trust: math.NaN()}, {Name: "\xff\x00", Trust: -3}}, Objects: []string{"\n", ""}}
	strange.Rules = []api.Rule{{Who: "", What: ""}, {Who: "", What: "\n", Cond: api.Above}, {Who: "\xff\x00", What: "\n", Actions: []string{"\xff", "nothing"}, Cond: api.Below}, {Who: "\xff\x00", What: "", Cond: 3}}
	wantGraph(t, "texts that are no names, a trust that is no number", strange,
		api.Graph{Actions: strange.Actions, Subjects: []string{"", "\xff\x00"}, Objects: strange.Objects, Of: numbers("1 2"), On: numbers("1 2"), Masks: rows("0 3", "2 0")})

	p := load(t, example)
	p.Members = append(p.Members, api.Pair{From: "bob", To: "nobody"})
	p.Withins = append(p.Withins, api.Pair{From: "building", To: "nowhere"})
	p.Rules = append(p.Rules, rule("nobody", "nowhere", "write jump"))
	wantGraph(t, "names that are declared nowhere", p, slowCompile(p))
	if got := graph.Compile(p); got.Of[1] != 2 || got.Of[2] != 3 || got.Masks[1][0] != 4 || got.Masks[1][0] != mean.Mask(p, "bob", "door1") {
		t.Errorf("%+v", got)
	}
}
