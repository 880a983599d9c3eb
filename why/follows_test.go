package why_test

import (
	"slices"
	"testing"

	"gatehouse/api"
	"gatehouse/mean"
	"gatehouse/why"
)

// everyName has all names that stand anywhere in a policy, the empty one and one that stands nowhere.
func everyName(p api.Policy) []string {
	l := slices.Concat([]string{"", "nobody"}, p.Actions, p.Roles, p.Objects, p.Groups)
	for _, s := range p.Subjects {
		l = append(l, s.Name)
	}
	for _, q := range slices.Concat(p.Members, p.Inherits, p.Parts, p.Withins) {
		l = append(l, q.From, q.To)
	}
	slices.Sort(l)
	return slices.Compact(l)
}

func everyTriple(p api.Policy) []api.Triple {
	names := everyName(p)
	var l []api.Triple
	for _, s := range names {
		for _, o := range names {
			for _, a := range names {
				l = append(l, api.Triple{Subject: s, Object: o, Action: a})
			}
		}
	}
	return l
}

// What Explain gives holds, and says yes just where the policy does: of every triple of all names.
func TestWhatExplainGivesHolds(t *testing.T) {
	policies := []api.Policy{load(t, example), ringed(), house(), {}}
	d := dice(101)
	for range 150 {
		policies = append(policies, d.thrown())
	}
	for _, p := range policies {
		for _, x := range everyTriple(p) {
			r := why.Explain(p, x)
			if !why.Holds(p, x, r) {
				t.Fatalf("%+v: %+v of %v does not hold", p, r, x)
			}
			if allowed := mean.Allows(p, x); (r.Verdict == api.WhyAllowed) != allowed {
				t.Fatalf("%+v: %+v of %v, which is allowed: %v", p, r, x, allowed)
			}
			if len(why.Tell(p, x, r)) == 0 {
				t.Fatalf("%+v: nothing is told of %+v", p, r)
			}
			told := slices.Contains(why.Who(p, x.Object, x.Action), x.Subject)
			if told != (r.Verdict == api.WhyAllowed) || told != slices.Contains(why.What(p, x.Subject, x.Action), x.Object) {
				t.Fatalf("%+v: Who and What of %v, %+v", p, x, r)
			}
		}
	}
}

// everyWay has all rows of at most most names that begin with one.
func everyWay(names []string, from string, most int) [][]string {
	rows := [][]string{{from}}
	for at := 0; at < len(rows); at++ {
		if len(rows[at]) < most {
			for _, name := range names {
				rows = append(rows, slices.Concat(rows[at], []string{name}))
			}
		}
	}
	return rows
}

// Of a triple, all reasons of a small policy: a reason that holds says yes just if the policy does, and no way is shorter than Explain's.
func TestAllReasonsOfSmallPolicies(t *testing.T) {
	d := dice(102)
	held, shorter := 0, 0
	for range 250 {
		p := smallPolicy(&d)
		x := triple("s/o/a")
		given := why.Explain(p, x)
		allowed := mean.Allows(p, x)
		whos, whats := everyWay([]string{"s", "r", "q"}, "s", 3), everyWay([]string{"o", "g"}, "o", 3)
		whos, whats = append(whos, nil), append(whats, nil)
		for verdict := int8(0); verdict <= 6; verdict++ {
			for place := range 4 {
				for _, who := range whos {
					for _, what := range whats {
						r := api.Reason{Verdict: verdict, Rule: place, Who: who, What: what}
						holds := why.Holds(p, x, r)
						if holds != slowHolds(p, x, r) {
							t.Fatalf("%+v: Holds of %+v: %v", p, r, holds)
						}
						if !holds {
							continue
						}
						held++
						if (verdict == api.WhyAllowed) != allowed {
							t.Fatalf("%+v: %+v holds, and the triple is allowed: %v", p, r, allowed)
						}
						if verdict == given.Verdict && place == given.Rule {
							if len(who) < len(given.Who) || len(what) < len(given.What) {
								t.Fatalf("%+v: %+v is shorter than %+v", p, r, given)
							}
							shorter++
						}
					}
				}
			}
		}
	}
	if held < 600 || shorter < 500 {
		t.Errorf("%d reasons that hold, %d beside Explain's: too few to tell", held, shorter)
	}
}

// smallPolicy has one triple, and few names about it.
func smallPolicy(d *dice) api.Policy {
	pair := func(names ...string) func() api.Pair {
		return func() api.Pair { return api.Pair{From: of(d, names), To: of(d, names)} }
	}
	p := api.Policy{Actions: []string{"a"}, Subjects: subjects("s"), Objects: []string{"o"}}
	p.Members, p.Inherits = some(d, 4, pair("s", "s", "r", "q")), some(d, 4, pair("s", "r", "q"))
	p.Parts, p.Withins = some(d, 4, pair("o", "g")), some(d, 2, pair("o", "g"))
	p.Rules = some(d, 3, func() api.Rule {
		return api.Rule{Deny: d.throw(4) == 0, Who: of(d, []string{"s", "r", "q"}), What: of(d, []string{"o", "g"})}
	})
	if d.throw(5) == 0 {
		p.Excepts = some(d, 2, func() api.Triple { return of(d, triples("s/o/a s/o/b")) })
	}
	return p
}
