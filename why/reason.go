package why

import (
	"gatehouse/api"
	"gatehouse/mean"
	"gatehouse/reach"
)

// byRule is the reason by the rule at a place, with the ways by which it comes to speak of the triple.
func byRule(p api.Policy, t api.Triple, verdict int8, at int) api.Reason {
	return api.Reason{
		Verdict: verdict,
		Rule:    at + 1,
		Who:     reach.Path(whoPairs(p), t.Subject, p.Rules[at].Who),
		What:    reach.Path(whatPairs(p), t.Object, p.Rules[at].What),
	}
}

func holdsByRule(p api.Policy, t api.Triple, r api.Reason, deny bool) bool {
	if !counts(r.Rule, len(p.Rules)) {
		return false
	}
	rule := p.Rules[r.Rule-1]
	return rule.Deny == deny && mean.Matches(p, rule, t) &&
		isWay(whoPairs(p), r.Who, t.Subject, rule.Who) && isWay(whatPairs(p), r.What, t.Object, rule.What)
}

// isWay takes each way, the shortest or not, as who made the reason is not known.
func isWay(pairs []api.Pair, way []string, from, to string) bool {
	if len(way) == 0 || way[0] != from || way[len(way)-1] != to {
		return false
	}
	steps := setOf(pairs)
	for i, name := range way[1:] {
		if !has(steps, api.Pair{From: way[i], To: name}) {
			return false
		}
	}
	return true
}

// counts says whether a place, counted from 1 on, is one of a list of that length.
func counts(place, length int) bool { return 1 <= place && place <= length }

func noRule(r api.Reason) bool { return r.Rule == 0 }

func noWays(r api.Reason) bool { return len(r.Who) == 0 && len(r.What) == 0 }
