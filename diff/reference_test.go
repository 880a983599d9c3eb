package diff_test

import (
	"math"
	"slices"
	"testing"

	"gatehouse/api"
	"gatehouse/diff"
	"gatehouse/mean"
)

// A second reckoning, which goes through all that a policy's lists have, and asks both policies of each triple.

// slowOnly are the triples that p allows and q does not, in p's order.
func slowOnly(p, q api.Policy) []api.Triple {
	var l []api.Triple
	for _, s := range p.Subjects {
		for _, o := range p.Objects {
			for _, a := range p.Actions {
				x := api.Triple{Subject: s.Name, Object: o, Action: a}
				if mean.Allows(p, x) && !mean.Allows(q, x) && !slices.Contains(l, x) {
					l = append(l, x)
				}
			}
		}
	}
	return l
}

func slowList(p, q api.Policy) []api.Change {
	var l []api.Change
	for _, x := range slowOnly(p, q) {
		l = append(l, api.Change{Triple: x, Gained: false})
	}
	for _, x := range slowOnly(q, p) {
		l = append(l, api.Change{Triple: x, Gained: true})
	}
	return l
}

// dice is a row of numbers that is the same in each run.
type dice uint64

func (d *dice) throw(n int) int {
	*d = *d*6364136223846793005 + 1442695040888963407
	return int(uint64(*d>>33) % uint64(n))
}

// of is one of several things.
func of[T any](d *dice, things []T) T { return things[d.throw(len(things))] }

// some are at most most things.
func some[T any](d *dice, most int, thing func() T) []T {
	var l []T
	for range d.throw(most + 1) {
		l = append(l, thing())
	}
	return l
}

// mixed are the things in another order.
func mixed[T any](d *dice, things []T) []T {
	l := slices.Clone(things)
	for i := range l {
		j := d.throw(i + 1)
		l[i], l[j] = l[j], l[i]
	}
	return l
}

// thrown is a policy of few names, right or not: names may come twice, in several lists, or stand in a pair, a rule or an except alone; trusts and levels may be no numbers.
func (d *dice) thrown() api.Policy {
	who, what, action := []string{"x", "x", "y", "r", "n"}, []string{"d", "d", "e", "g", "n"}, []string{"o", "o", "p", "n"}
	float := func() float64 { return of(d, []float64{0, 0.5, 0.5, 0.5, 1, math.NaN()}) }
	pair := func(names []string) func() api.Pair {
		return func() api.Pair { return api.Pair{From: of(d, names), To: of(d, names)} }
	}
	name := func(names []string) func() string { return func() string { return of(d, names) } }
	return api.Policy{
		Actions:  some(d, 5, name(action)),
		Subjects: some(d, 5, func() api.Subject { return api.Subject{Name: of(d, who), Trust: float()} }),
		Objects:  some(d, 5, name(what)),
		Members:  some(d, 3, pair(who)),
		Inherits: some(d, 3, pair(who)),
		Parts:    some(d, 3, pair(what)),
		Withins:  some(d, 3, pair(what)),
		Rules: some(d, 9, func() api.Rule {
			return api.Rule{Deny: d.throw(5) == 0, Who: of(d, who), What: of(d, what), Actions: some(d, 2, name(action)), Cond: of(d, []int8{0, 0, 0, 0, 1, 2, 3}), Level: float()}
		}),
		Excepts: some(d, 3, func() api.Triple { return api.Triple{Subject: of(d, who), Object: of(d, what), Action: of(d, action)} }),
	}
}

// another is a policy that has something of this one: its lists in another order, or lists of a thrown one in place of some.
func (d *dice) another(p api.Policy) api.Policy {
	q := d.thrown()
	for _, keep := range []func(){
		func() { q.Actions = mixed(d, p.Actions) }, func() { q.Subjects = mixed(d, p.Subjects) }, func() { q.Objects = mixed(d, p.Objects) },
		func() { q.Members, q.Inherits = p.Members, p.Inherits }, func() { q.Parts, q.Withins = p.Parts, p.Withins },
		func() { q.Rules = mixed(d, p.Rules) }, func() { q.Rules = append(slices.Clone(p.Rules), q.Rules...) }, func() { q.Excepts = p.Excepts },
	} {
		if d.throw(4) > 0 {
			keep()
		}
	}
	return q
}

func TestAgainstASlowOne(t *testing.T) {
	d := dice(13)
	lost, gained, both, same := 0, 0, 0, 0
	for range 6000 {
		p := d.thrown()
		q := d.another(p)
		want := slowList(p, q)
		wantChanges(t, "thrown", p, q, written(want))
		if got := diff.List(p, q); !slices.Equal(got, want) {
			t.Errorf("%+v", got)
		}
		if t.Failed() {
			t.Fatalf("from %+v to %+v", p, q)
		}
		less, more := len(slowOnly(p, q)), len(slowOnly(q, p))
		lost, gained = lost+less, gained+more
		if less > 0 && more > 0 {
			both++
		}
		if less+more == 0 && len(mean.Relation(p)) > 1 {
			same++
		}
	}
	if lost < 1000 || gained < 1000 || both < 200 || same < 200 {
		t.Errorf("%d lost, %d gained, %d with both, %d the same: too few to tell", lost, gained, both, same)
	}
}

func TestChainsAgainstASlowOne(t *testing.T) {
	d := dice(133)
	for range 600 {
		row := []api.Policy{d.thrown()}
		for range d.throw(6) {
			row = append(row, d.another(of(&d, row)))
		}
		var want []string
		for i := 1; i < len(row); i++ {
			want = append(want, written(slowList(row[i-1], row[i])))
		}
		wantChain(t, "thrown", diff.Chain(row[0], row[1:]...), want...)
		if t.Failed() {
			t.Fatalf("%+v", row)
		}
	}
}

// smallest are policies for each relation of two subjects, one object and two actions, in each order of the lists, by rules or by excepts.
func smallest() []api.Policy {
	all := triples("x/d/o x/d/p y/d/o y/d/p")
	var l []api.Policy
	for n := range 16 {
		for _, lists := range []string{"x y/d/o p", "y x/d/o p", "x y/d/p o", "y x/d/p o"} {
			byRules, byExcepts := policy(lists, ""), policy(lists, "")
			byExcepts.Rules = []api.Rule{{Who: "x", What: "d"}, {Who: "y", What: "d"}}
			for k, x := range all {
				if n>>k&1 == 1 {
					byRules.Rules = append(byRules.Rules, api.Rule{Who: x.Subject, What: x.Object, Actions: []string{x.Action}})
				} else {
					byExcepts.Excepts = append(byExcepts.Excepts, x)
				}
			}
			l = append(l, byRules, byExcepts)
		}
	}
	return l
}

func TestAllSmallPolicies(t *testing.T) {
	all := smallest()
	for i, p := range all {
		for j, q := range all {
			want := slowList(p, q)
			if got := diff.List(p, q); !slices.Equal(got, want) {
				t.Fatalf("from %+v to %+v: %q, want %q", p, q, written(got), written(want))
			}
			// eight of them in a row have one relation
			if got := diff.Same(p, q); got != (i/8 == j/8) {
				t.Fatalf("%+v and %+v: Same says %v", p, q, got)
			}
		}
	}
}
