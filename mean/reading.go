package mean

import "gatehouse/api"

// reading is a policy as it is read for some of its actions, which are known by their places from then on.
type reading struct {
	actions []string
	places  map[string][]int
	rules   []api.Rule
	excepts map[api.Triple]struct{}
}

func read(p api.Policy, actions []string) reading {
	r := reading{actions: actions, places: map[string][]int{}, rules: p.Rules, excepts: map[api.Triple]struct{}{}}
	for k, action := range actions {
		r.places[action] = append(r.places[action], k)
	}
	for _, t := range p.Excepts {
		r.excepts[t] = struct{}{}
	}
	return r
}

// allowed are the places, among these actions of the policy, of those that a subject may do with an object.
func allowed(p api.Policy, subject, object string, actions []string) []int {
	s, o, r := subjectOf(p, subject), objectOf(p, object), read(p, actions)
	return r.allowed(r.about(s), s, o)
}

// What rules say of an action: together they say the greatest of it, as what is denied is denied, whatever allows it.
const (
	sayNothing int8 = iota
	sayYes
	sayNo
)

// ruling is what a rule says once it is known to be for a subject.
type ruling struct {
	what   string
	says   int8
	places []int
}

// about are the rules that are for a subject: by who it is, and by its trust.
func (r reading) about(subject party) []ruling {
	var rulings []ruling
	for _, rule := range r.rules {
		if subject.is(rule.Who) && Passes(rule, subject.trust) {
			rulings = append(rulings, r.ruling(rule))
		}
	}
	return rulings
}

func (r reading) ruling(rule api.Rule) ruling {
	made := ruling{what: rule.What, says: sayYes}
	if rule.Deny {
		made.says = sayNo
	}
	actions := rule.Actions
	if len(actions) == 0 {
		actions = r.actions
	}
	for _, action := range actions {
		made.places = append(made.places, r.places[action]...)
	}
	return made
}

// allowed goes by the rules that are for the subject.
func (r reading) allowed(rules []ruling, subject, object party) []int {
	said := make([]int8, len(r.actions))
	for _, rule := range rules {
		if object.is(rule.what) {
			for _, k := range rule.places {
				said[k] = max(said[k], rule.says)
			}
		}
	}
	var places []int
	for k, says := range said {
		if says == sayYes && !r.excepted(r.triple(subject, object, k)) {
			places = append(places, k)
		}
	}
	return places
}

func (r reading) excepted(t api.Triple) bool {
	_, has := r.excepts[t]
	return has
}

func (r reading) triple(subject, object party, place int) api.Triple {
	return api.Triple{Subject: subject.name, Object: object.name, Action: r.actions[place]}
}
