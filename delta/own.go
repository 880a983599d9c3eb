package delta

import (
	"strings"

	"gatehouse/api"
)

// ownPolicy is the same policy in memory that nobody else has.
func ownPolicy(p api.Policy) api.Policy {
	return api.Policy{
		Actions:  own(p.Actions, strings.Clone),
		Subjects: own(p.Subjects, ownSubject),
		Roles:    own(p.Roles, strings.Clone),
		Objects:  own(p.Objects, strings.Clone),
		Groups:   own(p.Groups, strings.Clone),
		Members:  own(p.Members, ownPair),
		Inherits: own(p.Inherits, ownPair),
		Parts:    own(p.Parts, ownPair),
		Withins:  own(p.Withins, ownPair),
		Rules:    own(p.Rules, ownRule),
		Excepts:  own(p.Excepts, ownTriple),
	}
}

// own is a new list, nil if there is nothing in it.
func own[T any](list []T, copied func(T) T) []T {
	var l []T
	for _, thing := range list {
		l = append(l, copied(thing))
	}
	return l
}

func ownSubject(s api.Subject) api.Subject {
	return api.Subject{Name: strings.Clone(s.Name), Trust: s.Trust}
}

func ownPair(p api.Pair) api.Pair {
	return api.Pair{From: strings.Clone(p.From), To: strings.Clone(p.To)}
}

func ownRule(r api.Rule) api.Rule {
	return api.Rule{Deny: r.Deny, Who: strings.Clone(r.Who), What: strings.Clone(r.What), Actions: own(r.Actions, strings.Clone), Cond: r.Cond, Level: r.Level}
}

func ownTriple(t api.Triple) api.Triple {
	return api.Triple{Subject: strings.Clone(t.Subject), Object: strings.Clone(t.Object), Action: strings.Clone(t.Action)}
}
