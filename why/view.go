package why

import (
	"slices"

	"gatehouse/api"
	"gatehouse/mean"
	"gatehouse/reach"
)

// view is what a policy has to say of one triple, whose names are all there.
type view struct {
	triple      api.Triple
	rules       []api.Rule
	near        api.Policy
	whos, whats map[string]struct{}
}

func viewOf(p api.Policy, t api.Triple) view {
	return view{
		triple: t,
		rules:  p.Rules,
		near: api.Policy{
			Subjects: firstSubject(p.Subjects, t.Subject),
			Objects:  firstName(p.Objects, t.Object),
			Actions:  firstName(p.Actions, t.Action),
		},
		whos:  setOf(reach.Up(whoPairs(p), t.Subject)),
		whats: setOf(reach.Up(whatPairs(p), t.Object)),
	}
}

// matches says of a rule what mean.Matches says of it in the whole policy, which would go along all the pairs once more for each rule: here they have been gone along, and a name that was reached is put one pair away.
func (v view) matches(r api.Rule) bool {
	if !has(v.whos, r.Who) || !has(v.whats, r.What) {
		return false
	}
	v.near.Members = []api.Pair{{From: v.triple.Subject, To: r.Who}}
	v.near.Parts = []api.Pair{{From: v.triple.Object, To: r.What}}
	return mean.Matches(v.near, r, v.triple)
}

// firstRule is the place of the first rule that matches and denies, or does not; below 0 if there is none.
func (v view) firstRule(deny bool) int {
	return slices.IndexFunc(v.rules, func(r api.Rule) bool { return r.Deny == deny && v.matches(r) })
}

func (v view) anyRule() bool { return slices.ContainsFunc(v.rules, v.matches) }

func whoPairs(p api.Policy) []api.Pair { return slices.Concat(p.Members, p.Inherits) }

func whatPairs(p api.Policy) []api.Pair { return slices.Concat(p.Parts, p.Withins) }

func setOf[T comparable](things []T) map[T]struct{} {
	set := map[T]struct{}{}
	for _, thing := range things {
		set[thing] = struct{}{}
	}
	return set
}

func has[T comparable](set map[T]struct{}, thing T) bool {
	_, is := set[thing]
	return is
}
