package graph_test

import (
	"slices"
	"strconv"
	"testing"

	"gatehouse/api"
	"gatehouse/graph"
	"gatehouse/mean"
	"gatehouse/valid"
)

// everyName has all names that stand anywhere in a policy, the empty one and one that stands nowhere.
func everyName(p api.Policy) []string {
	l := slices.Concat([]string{"", "nobody"}, p.Actions, p.Roles, p.Objects, p.Groups)
	for _, s := range p.Subjects {
		l = append(l, s.Name)
	}
	slices.Sort(l)
	return slices.Compact(l)
}

func everyTriple(p api.Policy) []api.Triple {
	names := everyName(p)
	var l []api.Triple
	for _, s := range names {
		for _, o := range names {
			for _, a := range names {
				l = append(l, api.Triple{Subject: s, Object: o, Action: a})
			}
		}
	}
	return l
}

// right is a right policy of few names; one name may stand in several spaces.
func (d *dice) right() api.Policy {
	float := func() float64 { return of(d, []float64{0, 0.25, 0.5, 0.75, 1}) }
	var p api.Policy
	p.Actions, p.Roles = d.several("open", "read", "ann", "x"), d.several("r1", "r2", "r3")
	p.Objects, p.Groups = d.several("door", "safe", "ann", "r1", "x"), d.several("g1", "g2")
	for _, name := range d.several("ann", "bob", "cat", "door", "x") {
		p.Subjects = append(p.Subjects, api.Subject{Name: name, Trust: float()})
	}
	var names []string
	for _, s := range p.Subjects {
		names = append(names, s.Name)
	}
	p.Members, p.Inherits = d.lines(names, p.Roles), d.lines(p.Roles, p.Roles)
	p.Parts, p.Withins = d.lines(p.Objects, p.Groups), d.lines(p.Groups, p.Groups)
	whos, whats := slices.Concat(names, p.Roles), slices.Concat(p.Objects, p.Groups)
	for range d.throw(9) {
		if len(whos) > 0 && len(whats) > 0 {
			r := api.Rule{Deny: d.throw(6) == 0, Who: of(d, whos), What: of(d, whats), Cond: int8(d.throw(3))}
			if len(p.Actions) > 0 {
				r.Actions = d.several(p.Actions...)
			}
			if r.Cond != api.Always {
				r.Level = float()
			}
			p.Rules = append(p.Rules, r)
		}
	}
	for _, x := range mean.Relation(p) {
		if d.throw(6) == 0 {
			p.Excepts = append(p.Excepts, x)
		}
	}
	return p
}

// several are some of the names, in any order.
func (d *dice) several(names ...string) []string {
	var l []string
	for _, name := range names {
		if d.throw(4) > 0 {
			l = slices.Insert(l, d.throw(len(l)+1), name)
		}
	}
	return l
}

func (d *dice) lines(from, to []string) []api.Pair {
	var l []api.Pair
	for _, f := range from {
		for _, t := range to {
			if d.throw(3) == 0 {
				l = append(l, api.Pair{From: f, To: t})
			}
		}
	}
	return l
}

// flat is a policy with the same names that allows the same, by other means: no roles, no groups, no pairs, and a rule for each triple, the last one first.
func flat(p api.Policy) api.Policy {
	q := api.Policy{Actions: p.Actions, Objects: p.Objects}
	for _, s := range p.Subjects {
		q.Subjects = append(q.Subjects, api.Subject{Name: s.Name})
	}
	for _, x := range mean.Relation(p) {
		r := api.Rule{Who: x.Subject, What: x.Object, Actions: []string{x.Action}}
		q.Rules = slices.Insert(q.Rules, 0, r)
	}
	return q
}

// The graph of a right policy is valid and decides as the policy does, of every triple of all names; what allows the same has the same graph.
func TestWhatFollows(t *testing.T) {
	policies := []api.Policy{load(t, example), {}}
	d := dice(103)
	for range 400 {
		policies = append(policies, d.right())
	}
	yes := 0
	for _, p := range policies {
		if err := valid.Check(p); err != nil {
			t.Fatalf("%+v is not right: %v", p, err)
		}
		g := graph.Compile(p)
		wantValid(t, "of a right policy", g, true)
		for _, x := range everyTriple(p) {
			want := mean.Allows(p, x)
			if got := graph.Decide(g, x); got != want {
				t.Fatalf("%+v: Decide of %v: %v", p, x, got)
			}
			if want {
				yes++
			}
		}
		wantGraph(t, "of a policy that allows the same", flat(p), g)
		if t.Failed() {
			return
		}
	}
	if yes < 1000 {
		t.Errorf("%d allowed: too few to tell", yes)
	}
}

// Each of the 16 relations of two subjects, two objects and one action, by many policies: as many graphs as relations.
func TestAsManyGraphsAsRelations(t *testing.T) {
	graphs := map[string]api.Graph{}
	d := dice(104)
	for range 12000 {
		p := d.right()
		p.Actions, p.Subjects, p.Objects = []string{"open"}, []api.Subject{{Name: "ann", Trust: 0.5}, {Name: "bob", Trust: 0.75}}, []string{"safe", "door"}
		relation := ""
		for _, x := range mean.Relation(p) {
			relation += x.Subject + "/" + x.Object + " "
		}
		g := graph.Compile(p)
		if first, has := graphs[relation]; has && !sameGraph(first, g) {
			t.Fatalf("%s has the graphs %+v and %+v", relation, first, g)
		}
		graphs[relation] = g
	}
	if len(graphs) != 16 {
		t.Errorf("%d relations: too few to tell", len(graphs))
	}
	for a, g := range graphs {
		for b, h := range graphs {
			if sameGraph(g, h) != (a == b) {
				t.Errorf("%q and %q: %+v and %+v", a, b, g, h)
			}
		}
	}
}

// lists are all lists of at most so many of the numbers.
func lists(most int, numbers ...int) [][]int {
	all := [][]int{nil}
	for from := 0; most > 0; most-- {
		to := len(all)
		for _, l := range all[from:to] {
			for _, n := range numbers {
				all = append(all, append(slices.Clone(l), n))
			}
		}
		from = to
	}
	return all
}

// smallGraphs has all graphs of few numbers, most of which are not valid: of these names, and masks of two rows at most.
func smallGraphs(yield func(api.Graph) bool) {
	var masks [][][]uint16
	pieces := lists(2, 0, 1, 2)
	for _, choice := range lists(2, numbers("0 1 2 3 4 5 6 7 8 9 10 11 12")...) {
		var m [][]uint16
		for _, k := range choice {
			var row []uint16
			for _, n := range pieces[k] {
				row = append(row, uint16(n))
			}
			m = append(m, row)
		}
		masks = append(masks, m)
	}
	for _, of := range lists(2, 0, 1, 2) {
		for _, on := range lists(3, 0, 1, 2) {
			for _, m := range masks {
				if !yield(api.Graph{Of: of, On: on, Masks: m}) {
					return
				}
			}
		}
	}
}

// All graphs of few numbers: the valid ones are just those that some policy has, the one that allows what they decide.
func TestAllSmallGraphs(t *testing.T) {
	good, bad := 0, 0
	for g := range smallGraphs {
		g.Subjects, g.Objects = numbered("s", len(g.Of)), numbered("o", len(g.On))
		for actions := range 3 {
			g.Actions = numbered("a", actions)
			want := slowValid(g)
			if got := graph.Valid(g); got != want {
				t.Fatalf("Valid of %+v: %v", g, got)
			}
			p := policyOf(g)
			if again := sameGraph(graph.Compile(p), g); again != want {
				t.Fatalf("%+v, whose policy has the graph %+v, is valid: %v", g, graph.Compile(p), want)
			}
			if want {
				good++
			} else {
				bad++
			}
		}
	}
	if good < 50 || bad < 10000 {
		t.Errorf("%d valid, %d not: too few to tell", good, bad)
	}
}

// policyOf allows what a graph decides.
func policyOf(g api.Graph) api.Policy {
	p := api.Policy{Actions: g.Actions, Subjects: subjects(g.Subjects...), Objects: g.Objects}
	for _, s := range g.Subjects {
		for _, o := range g.Objects {
			for _, a := range g.Actions {
				if x := (api.Triple{Subject: s, Object: o, Action: a}); slowDecide(g, x) {
					p.Rules = append(p.Rules, rule(s, o, a))
				}
			}
		}
	}
	return p
}

// The greatest right policy: as many names as may be, each rule and each pair that may be.
func TestTheGreatestPolicy(t *testing.T) {
	name := func(text string, k int) string { return text + strconv.Itoa(k%64) }
	var p api.Policy
	for k := range api.MaxActions {
		p.Actions = append(p.Actions, name("a", k))
	}
	for k := range api.MaxEach {
		p.Subjects = append(p.Subjects, api.Subject{Name: name("s", k), Trust: float64(k%5) / 4})
		p.Roles, p.Objects, p.Groups = append(p.Roles, name("r", k)), append(p.Objects, name("o", k)), append(p.Groups, name("g", k))
	}
	for k := range api.MaxPairs {
		from, to := k, k+k/64+1
		p.Members = append(p.Members, api.Pair{From: name("s", from), To: name("r", to)})
		p.Inherits = append(p.Inherits, api.Pair{From: name("r", from/8), To: name("r", to/8*3+k%8)})
		p.Parts = append(p.Parts, api.Pair{From: name("o", from), To: name("g", to)})
		p.Withins = append(p.Withins, api.Pair{From: name("g", from/8), To: name("g", to/8*5+k%8)})
		p.Rules = append(p.Rules, api.Rule{Deny: k%16 == 7, Who: name("r", k), What: name("g", k/4), Actions: []string{name("a", k%16), name("a", (k+5)%16)}, Cond: api.Above, Level: float64(k%4) / 4})
		p.Excepts = append(p.Excepts, api.Triple{Subject: name("s", k), Object: name("o", k/64), Action: name("a", k%16)})
	}
	if err := valid.Check(p); err != nil {
		t.Fatal(err)
	}
	g, want := graph.Compile(p), slowCompile(p)
	if !sameGraph(g, want) || !graph.Valid(g) {
		t.Errorf("Of %v, On %v", g.Of, g.On)
	}
	if slices.Max(g.Of) < 4 || slices.Max(g.On) < 4 {
		t.Errorf("%d classes by %d: too few to tell", slices.Max(g.Of), slices.Max(g.On))
	}
	wantGraph(t, "by a rule for each triple", flat(p), g)
}
