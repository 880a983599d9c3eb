package mean_test

import (
	"slices"
	"testing"

	"gatehouse/api"
	"gatehouse/mean"
)

// What follows (promise 8.6), held against the answers alone.

// plus has one rule more, at some place among the others.
func plus(d *dice, p api.Policy, r api.Rule) api.Policy {
	p.Rules = slices.Insert(slices.Clone(p.Rules), d.throw(len(p.Rules)+1), r)
	return p
}

// oneMore is a rule of thrown names.
func oneMore(d *dice) api.Rule {
	for {
		if l := d.thrown().Rules; len(l) > 0 {
			return l[0]
		}
	}
}

func without(l []api.Triple, out func(api.Triple) bool) []api.Triple {
	return slices.DeleteFunc(slices.Clone(l), out)
}

func TestOneDenyRuleMore(t *testing.T) {
	d := dice(86)
	fewer := 0
	for range 6000 {
		p, r := d.thrown(), denying(oneMore(&d))
		before := mean.Relation(p)
		want := without(before, func(x api.Triple) bool { return mean.Matches(p, r, x) })
		if got := mean.Relation(plus(&d, p, r)); !slices.Equal(got, want) {
			t.Fatalf("%v and %v: %s, want %s", p, r, written(got), written(want))
		}
		if len(want) < len(before) {
			fewer++
		}
	}
	if fewer < 100 {
		t.Errorf("%d policies with less only", fewer)
	}
}

func TestOneRuleMoreThatAllows(t *testing.T) {
	d := dice(87)
	more, kept := 0, 0
	for range 1500 {
		p, r := d.thrown(), oneMore(&d)
		r.Deny = false
		before, after := mean.Relation(p), mean.Relation(plus(&d, p, r))
		for _, x := range everyTriple(p) {
			was, is := slices.Contains(before, x), slices.Contains(after, x)
			free := !slices.Contains(p.Excepts, x) && !slices.ContainsFunc(p.Rules, func(o api.Rule) bool { return o.Deny && mean.Matches(p, o, x) })
			matched := !was && mean.Matches(p, r, x)
			if is != (was || matched && free) {
				t.Fatalf("%v and %v: %v was %v and is %v", p, r, x, was, is)
			}
			if is && !was {
				more++
			}
			if matched && !free {
				kept++
			}
		}
	}
	if more < 100 || kept < 100 {
		t.Errorf("%d triples more and %d kept out only", more, kept)
	}
}

func TestOneExceptMore(t *testing.T) {
	d := dice(88)
	fewer := 0
	for range 3000 {
		p := d.thrown()
		before := mean.Relation(p)
		more := slices.Concat(before, d.thrown().Excepts, []api.Triple{{}})
		for _, x := range more {
			q := p
			q.Excepts = slices.Insert(slices.Clone(p.Excepts), d.throw(len(p.Excepts)+1), x)
			want := without(before, func(y api.Triple) bool { return x == y })
			if got := mean.Relation(q); !slices.Equal(got, want) {
				t.Fatalf("%v without %v: %s, want %s", p, x, written(got), written(want))
			}
			fewer += len(before) - len(want)
		}
	}
	if fewer < 500 {
		t.Errorf("%d triples taken out only", fewer)
	}
}

// The example's policy, with each rule that names of it make.
func TestOneRuleMoreInTheExample(t *testing.T) {
	p := load(t, example)
	before := mean.Relation(p)
	for _, who := range []string{"ann", "bob", "the night watch", "clerk", "guard"} {
		for _, what := range []string{"door1", "door2", "vault", "doors", "building"} {
			for _, actions := range []string{"", "open", "read", "write read"} {
				r := rule(who, what, actions)
				q := p
				q.Rules = append(slices.Clone(p.Rules), denying(r))
				if got, want := mean.Relation(q), without(before, func(x api.Triple) bool { return mean.Matches(p, r, x) }); !slices.Equal(got, want) {
					t.Errorf("deny %s on %s : %s: %s", who, what, actions, written(got))
				}
				q.Rules[2] = r
				for _, x := range everyTriple(p) {
					free := x != triple("ann/door1/read") && !mean.Matches(p, p.Rules[1], x)
					if got := mean.Allows(q, x); got != (slices.Contains(before, x) || mean.Matches(p, r, x) && free) {
						t.Errorf("allow %s on %s : %s: %v: %v", who, what, actions, x, got)
					}
				}
			}
		}
	}
}
