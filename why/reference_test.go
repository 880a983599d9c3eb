package why_test

import (
	"math"
	"slices"
	"strconv"
	"testing"

	"gatehouse/api"
	"gatehouse/mean"
	"gatehouse/reach"
	"gatehouse/why"
)

// A second reckoning, which reads the chapter's words as they stand, by mean's calls on the whole policy.

func numbered(text string, n int) string { return text + strconv.Itoa(n) }

func slowThere(p api.Policy, x api.Triple) (subject, object, action bool) {
	for _, s := range p.Subjects {
		subject = subject || s.Name == x.Subject
	}
	return subject, slices.Contains(p.Objects, x.Object), slices.Contains(p.Actions, x.Action)
}

func slowAllThere(p api.Policy, x api.Triple) bool {
	subject, object, action := slowThere(p, x)
	return subject && object && action
}

func slowPairs(p api.Policy) (whos, whats []api.Pair) {
	return append(slices.Clone(p.Members), p.Inherits...), append(slices.Clone(p.Parts), p.Withins...)
}

func slowExplain(p api.Policy, x api.Triple) api.Reason {
	if !slowAllThere(p, x) {
		return api.Reason{Verdict: 1}
	}
	for i, e := range p.Excepts {
		if e.Subject == x.Subject && e.Object == x.Object && e.Action == x.Action {
			return api.Reason{Verdict: 2, Rule: i + 1}
		}
	}
	whos, whats := slowPairs(p)
	for _, deny := range []bool{true, false} {
		for i, r := range p.Rules {
			if r.Deny != deny || !mean.Matches(p, r, x) {
				continue
			}
			made := api.Reason{Verdict: 4, Rule: i + 1, Who: reach.Path(whos, x.Subject, r.Who), What: reach.Path(whats, x.Object, r.What)}
			if deny {
				made.Verdict = 3
			}
			return made
		}
	}
	return api.Reason{Verdict: 5}
}

func slowWay(pairs []api.Pair, way []string, from, to string) bool {
	for i, name := range way {
		if i == 0 && name != from || i == len(way)-1 && name != to {
			return false
		}
		if i > 0 && !slices.Contains(pairs, api.Pair{From: way[i-1], To: name}) {
			return false
		}
	}
	return len(way) > 0
}

func slowHolds(p api.Policy, x api.Triple, r api.Reason) bool {
	whos, whats := slowPairs(p)
	bare := len(r.Who)+len(r.What) == 0
	byRule := func(deny bool) bool {
		for i, rule := range p.Rules {
			if i+1 == r.Rule {
				return rule.Deny == deny && mean.Matches(p, rule, x) && slowWay(whos, r.Who, x.Subject, rule.Who) && slowWay(whats, r.What, x.Object, rule.What)
			}
		}
		return false
	}
	switch r.Verdict {
	case 1:
		return !slowAllThere(p, x) && r.Rule == 0 && bare
	case 2:
		for i, e := range p.Excepts {
			if i+1 == r.Rule {
				return e == x && slowAllThere(p, x) && bare
			}
		}
	case 3:
		return byRule(true)
	case 4:
		return mean.Allows(p, x) && byRule(false)
	case 5:
		for _, rule := range p.Rules {
			if mean.Matches(p, rule, x) {
				return false
			}
		}
		return slowAllThere(p, x) && r.Rule == 0 && bare
	}
	return false
}

func slowWho(p api.Policy, object, action string) []string {
	var l []string
	for _, s := range p.Subjects {
		if mean.Allows(p, api.Triple{Subject: s.Name, Object: object, Action: action}) && !slices.Contains(l, s.Name) {
			l = append(l, s.Name)
		}
	}
	return l
}

func slowWhat(p api.Policy, subject, action string) []string {
	var l []string
	for _, o := range p.Objects {
		if mean.Allows(p, api.Triple{Subject: subject, Object: o, Action: action}) && !slices.Contains(l, o) {
			l = append(l, o)
		}
	}
	return l
}

func slowTell(p api.Policy, x api.Triple, r api.Reason) []string {
	if !slowHolds(p, x, r) {
		return nil
	}
	arrows := func(l []string) string {
		text := ""
		for i, name := range l {
			if i > 0 {
				text += " > "
			}
			text += name
		}
		return text
	}
	ways := []string{"who: " + arrows(r.Who), "what: " + arrows(r.What)}
	n := strconv.Itoa(r.Rule)
	switch r.Verdict {
	case 2:
		return []string{"no: excepted by " + n}
	case 3:
		return append([]string{"no: denied by rule " + n}, ways...)
	case 4:
		return append([]string{"yes: allowed by rule " + n}, ways...)
	case 5:
		return []string{"no: no rule"}
	}
	var lines []string
	subject, object, action := slowThere(p, x)
	if !subject {
		lines = append(lines, "no subject "+x.Subject)
	}
	if !object {
		lines = append(lines, "no object "+x.Object)
	}
	if !action {
		lines = append(lines, "no action "+x.Action)
	}
	return lines
}

// dice is a row of numbers that is the same in each run.
type dice uint64

func (d *dice) throw(n int) int {
	*d = *d*6364136223846793005 + 1442695040888963407
	return int(uint64(*d>>33) % uint64(n))
}

// of is one of several things.
func of[T any](d *dice, things []T) T { return things[d.throw(len(things))] }

// some are at most most things.
func some[T any](d *dice, most int, thing func() T) []T {
	var l []T
	for range d.throw(most + 1) {
		l = append(l, thing())
	}
	return l
}

var (
	whoNames    = []string{"ann", "ann", "bob", "r1", "r2", "x"}
	whatNames   = []string{"door", "door", "safe", "g1", "x"}
	actionNames = []string{"open", "open", "read", "x"}
)

// thrown is a policy of few names, right or not: names may come twice, in several lists, or stand in a pair or a rule alone; trusts and levels may be no numbers.
func (d *dice) thrown() api.Policy {
	float := func() float64 { return of(d, []float64{0, 0.25, 0.5, 0.5, 0.5, 0.75, 1, math.NaN()}) }
	pair := func(names []string) func() api.Pair {
		return func() api.Pair { return api.Pair{From: of(d, names), To: of(d, names)} }
	}
	name := func(names []string) func() string { return func() string { return of(d, names) } }
	return api.Policy{
		Actions:  some(d, 5, name(actionNames)),
		Subjects: some(d, 5, func() api.Subject { return api.Subject{Name: of(d, whoNames), Trust: float()} }),
		Roles:    some(d, 2, name(whoNames)),
		Objects:  some(d, 5, name(whatNames)),
		Groups:   some(d, 2, name(whatNames)),
		Members:  some(d, 4, pair(whoNames)),
		Inherits: some(d, 4, pair(whoNames)),
		Parts:    some(d, 4, pair(whatNames)),
		Withins:  some(d, 4, pair(whatNames)),
		Rules: some(d, 9, func() api.Rule {
			return api.Rule{Deny: d.throw(4) == 0, Who: of(d, whoNames), What: of(d, whatNames), Actions: some(d, 2, name(actionNames)), Cond: of(d, []int8{0, 0, 0, 0, 1, 1, 2, 3}), Level: float()}
		}),
		Excepts: some(d, 4, func() api.Triple { return d.triple() }),
	}
}

func (d *dice) triple() api.Triple {
	return api.Triple{Subject: of(d, whoNames), Object: of(d, whatNames), Action: of(d, actionNames)}
}

// tripleOf mostly has names that are there, and is now and then one that is excepted.
func (d *dice) tripleOf(p api.Policy) api.Triple {
	x := d.triple()
	if d.throw(8) == 0 {
		return x
	}
	if len(p.Excepts) > 0 && d.throw(5) == 0 {
		return of(d, p.Excepts)
	}
	if len(p.Subjects) > 0 {
		x.Subject = of(d, p.Subjects).Name
	}
	if len(p.Objects) > 0 {
		x.Object = of(d, p.Objects)
	}
	if len(p.Actions) > 0 {
		x.Action = of(d, p.Actions)
	}
	return x
}

// walk is a row of names that mostly goes along the pairs.
func (d *dice) walk(pairs []api.Pair, from string, names []string) []string {
	l := []string{from}
	for range d.throw(5) {
		var next []string
		for _, p := range pairs {
			if p.From == l[len(l)-1] {
				next = append(next, p.To)
			}
		}
		if len(next) == 0 || d.throw(12) == 0 {
			next = names
		}
		l = append(l, of(d, next))
	}
	return l
}

// reason is one that may hold: of any verdict, with walks, or Explain's with something changed.
func (d *dice) reason(p api.Policy, x api.Triple) api.Reason {
	whos, whats := slowPairs(p)
	var r api.Reason
	if d.throw(3) > 0 {
		r = slowExplain(p, x)
	}
	switch d.throw(6) {
	case 0:
		r.Verdict = int8(d.throw(8) - 1)
	case 1:
		r.Rule = d.throw(12) - 1
	case 2:
		r.Who = d.walk(whos, x.Subject, whoNames)
	case 3:
		r.What = d.walk(whats, x.Object, whatNames)
	case 4:
		r = api.Reason{Verdict: of(d, []int8{3, 4}), Rule: d.throw(len(p.Rules) + 2), Who: d.walk(whos, x.Subject, whoNames), What: d.walk(whats, x.Object, whatNames)}
	case 5:
		r = api.Reason{Verdict: of(d, []int8{1, 2, 2, 5}), Rule: of(d, []int{0, 0, d.throw(len(p.Excepts) + 2)})}
	}
	return r
}

func TestAgainstASlowOne(t *testing.T) {
	d := dice(10)
	var explained, held [6]int
	refused, full := 0, 0
	for range 2500 {
		p := d.thrown()
		for range 6 {
			x := d.tripleOf(p)
			want := slowExplain(p, x)
			wantReason(t, "thrown", p, x, want)
			explained[want.Verdict]++
			for range 6 {
				r := d.reason(p, x)
				holds := slowHolds(p, x, r)
				if got := why.Holds(p, x, r); got != holds {
					t.Fatalf("%+v: Holds of %v and %+v: %v", p, x, r, got)
				}
				if got, want := why.Tell(p, x, r), slowTell(p, x, r); !slices.Equal(got, want) {
					t.Fatalf("%+v: Tell of %v and %+v: %q, want %q", p, x, r, got, want)
				}
				if holds {
					held[r.Verdict]++
				} else {
					refused++
				}
			}
			who, what := slowWho(p, x.Object, x.Action), slowWhat(p, x.Subject, x.Action)
			if got := why.Who(p, x.Object, x.Action); !slices.Equal(got, who) {
				t.Fatalf("%+v: Who of %s and %s: %q, want %q", p, x.Object, x.Action, got, who)
			}
			if got := why.What(p, x.Subject, x.Action); !slices.Equal(got, what) {
				t.Fatalf("%+v: What of %s and %s: %q, want %q", p, x.Subject, x.Action, got, what)
			}
			if len(who) > 1 || len(what) > 1 {
				full++
			}
			if t.Failed() {
				return
			}
		}
	}
	if slices.Min(explained[1:]) < 200 || slices.Min(held[1:]) < 50 || refused < 5000 || full < 200 {
		t.Errorf("verdicts %v, reasons that hold %v and do not %d, lists of several %d: too few to tell", explained, held, refused, full)
	}
}
