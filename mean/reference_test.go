package mean_test

import (
	"math"
	"slices"
	"testing"

	"gatehouse/api"
	"gatehouse/mean"
)

// A second reckoning, which reads the chapter's words as they stand and looks through the lists each time.

// slowIs goes along the pairs until nothing new comes.
func slowIs(name, wanted string, pairs []api.Pair) bool {
	reached := []string{name}
	for grown := true; grown; {
		grown = false
		for _, p := range pairs {
			if slices.Contains(reached, p.From) && !slices.Contains(reached, p.To) {
				reached, grown = append(reached, p.To), true
			}
		}
	}
	return slices.Contains(reached, wanted)
}

func slowPasses(r api.Rule, trust float64) bool {
	return r.Cond == api.Always || r.Cond == api.Above && trust >= r.Level || r.Cond == api.Below && trust < r.Level
}

func slowMatches(p api.Policy, r api.Rule, t api.Triple) bool {
	for _, s := range p.Subjects {
		if s.Name != t.Subject {
			continue
		}
		there := slices.Contains(p.Objects, t.Object) && slices.Contains(p.Actions, t.Action)
		speaks := slowIs(t.Subject, r.Who, slices.Concat(p.Members, p.Inherits)) && slowIs(t.Object, r.What, slices.Concat(p.Parts, p.Withins))
		return there && speaks && (len(r.Actions) == 0 || slices.Contains(r.Actions, t.Action)) && slowPasses(r, s.Trust)
	}
	return false
}

func slowAllows(p api.Policy, t api.Triple) bool {
	yes, no := 0, 0
	for _, r := range p.Rules {
		if slowMatches(p, r, t) {
			if r.Deny {
				no++
			} else {
				yes++
			}
		}
	}
	return yes > 0 && no == 0 && !slices.Contains(p.Excepts, t)
}

func slowMask(p api.Policy, subject, object string) uint16 {
	sum := 0
	for k, action := range p.Actions {
		if k <= 15 && slowAllows(p, api.Triple{Subject: subject, Object: object, Action: action}) {
			sum += int(math.Pow(2, float64(k)))
		}
	}
	return uint16(sum)
}

func slowRelation(p api.Policy) []api.Triple {
	var all []api.Triple
	for _, s := range p.Subjects {
		for _, o := range p.Objects {
			for _, a := range p.Actions {
				if t := (api.Triple{Subject: s.Name, Object: o, Action: a}); slowAllows(p, t) && !slices.Contains(all, t) {
					all = append(all, t)
				}
			}
		}
	}
	return all
}

// dice is a row of numbers that is the same in each run.
type dice uint64

func (d *dice) throw(n int) int {
	*d = *d*6364136223846793005 + 1442695040888963407
	return int(uint64(*d>>33) % uint64(n))
}

// of is one of several things.
func of[T any](d *dice, things []T) T { return things[d.throw(len(things))] }

// some are at most most things.
func some[T any](d *dice, most int, thing func() T) []T {
	var l []T
	for range d.throw(most + 1) {
		l = append(l, thing())
	}
	return l
}

// thrown is a policy of few names, right or not: names may come twice, in several lists, or stand in a pair or a rule alone; trusts and levels may be no numbers.
func (d *dice) thrown() api.Policy {
	who, what, action := []string{"ann", "ann", "bob", "r1", "r2", "x"}, []string{"door", "door", "safe", "g1", "x"}, []string{"open", "open", "read", "x"}
	float := func() float64 { return of(d, []float64{0, 0.25, 0.5, 0.5, 0.5, 0.75, 1, math.NaN()}) }
	pair := func(names []string) func() api.Pair {
		return func() api.Pair { return api.Pair{From: of(d, names), To: of(d, names)} }
	}
	name := func(names []string) func() string { return func() string { return of(d, names) } }
	return api.Policy{
		Actions:  some(d, 5, name(action)),
		Subjects: some(d, 5, func() api.Subject { return api.Subject{Name: of(d, who), Trust: float()} }),
		Roles:    some(d, 2, name(who)),
		Objects:  some(d, 5, name(what)),
		Groups:   some(d, 2, name(what)),
		Members:  some(d, 4, pair(who)),
		Inherits: some(d, 4, pair(who)),
		Parts:    some(d, 4, pair(what)),
		Withins:  some(d, 4, pair(what)),
		Rules: some(d, 9, func() api.Rule {
			return api.Rule{Deny: d.throw(4) == 0, Who: of(d, who), What: of(d, what), Actions: some(d, 2, name(action)), Cond: of(d, []int8{0, 0, 0, 0, 1, 1, 2, 3}), Level: float()}
		}),
		Excepts: some(d, 4, func() api.Triple { return api.Triple{Subject: of(d, who), Object: of(d, what), Action: of(d, action)} }),
	}
}

func TestAgainstASlowOne(t *testing.T) {
	d := dice(8)
	full, allowed, denied := 0, 0, 0
	for range 4000 {
		p := d.thrown()
		want := slowRelation(p)
		if got := mean.Relation(p); !slices.Equal(got, want) {
			t.Fatalf("%v: the relation is %s, want %s", p, written(got), written(want))
		}
		if len(want) > 0 {
			full++
		}
		for range 12 {
			s, o := of(&d, []string{"ann", "ann", "bob", "r1", "x", "nobody"}), of(&d, []string{"door", "door", "safe", "g1", "x"})
			if got, want := mean.Mask(p, s, o), slowMask(p, s, o); got != want {
				t.Fatalf("%v: the mask of %s and %s is %b, want %b", p, s, o, got, want)
			}
			x := api.Triple{Subject: s, Object: o, Action: of(&d, []string{"open", "open", "read", "x", "write"})}
			if got, want := mean.Allows(p, x), slowAllows(p, x); got != want {
				t.Fatalf("%v: Allows of %v: %v", p, x, got)
			} else if want {
				allowed++
			}
			for _, r := range append(p.Rules, d.thrown().Rules...) {
				if got, want := mean.Matches(p, r, x), slowMatches(p, r, x); got != want {
					t.Fatalf("%v: Matches of %v and %v: %v", p, r, x, got)
				} else if want && r.Deny {
					denied++
				}
			}
		}
	}
	if full < 500 || allowed < 500 || denied < 500 {
		t.Errorf("%d relations that are not empty, %d triples allowed, %d matched by a rule that denies: too few to tell", full, allowed, denied)
	}
}

// The calls say one and the same: a triple is in the relation just if it is allowed, and its bit is set.
func TestTheCallsAgree(t *testing.T) {
	d := dice(81)
	for range 300 {
		p := d.thrown()
		relation := mean.Relation(p)
		for _, x := range everyTriple(p) {
			allowed := mean.Allows(p, x)
			if allowed != slices.Contains(relation, x) {
				t.Fatalf("%v: Allows of %v: %v", p, x, allowed)
			}
			k := slices.Index(p.Actions, x.Action)
			if k >= 0 && allowed != (mean.Mask(p, x.Subject, x.Object)>>k&1 == 1) {
				t.Fatalf("%v: the bit of %v", p, x)
			}
		}
	}
}
