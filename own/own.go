// Package own copies what is handed in, so that whoever keeps it shares no memory with who has handed it in: lists and their spare room, and texts too.
package own

import (
	"strings"

	"gatehouse/api"
)

// Policy is the same policy in memory that nobody else has.
func Policy(p api.Policy) api.Policy {
	return api.Policy{
		Actions:  list(p.Actions, strings.Clone),
		Subjects: list(p.Subjects, subject),
		Roles:    list(p.Roles, strings.Clone),
		Objects:  list(p.Objects, strings.Clone),
		Groups:   list(p.Groups, strings.Clone),
		Members:  list(p.Members, pair),
		Inherits: list(p.Inherits, pair),
		Parts:    list(p.Parts, pair),
		Withins:  list(p.Withins, pair),
		Rules:    list(p.Rules, rule),
		Excepts:  list(p.Excepts, Triple),
	}
}

// Op is the same operation in memory that nobody else has.
func Op(op api.Op) api.Op {
	return api.Op{Kind: op.Kind, Triple: Triple(op.Triple), Text: strings.Clone(op.Text), Deltas: list(op.Deltas, delta)}
}

// list is a new list, nil if there is nothing in it.
func list[T any](things []T, copied func(T) T) []T {
	var l []T
	for _, thing := range things {
		l = append(l, copied(thing))
	}
	return l
}

func subject(s api.Subject) api.Subject {
	return api.Subject{Name: strings.Clone(s.Name), Trust: s.Trust}
}

func pair(p api.Pair) api.Pair {
	return api.Pair{From: strings.Clone(p.From), To: strings.Clone(p.To)}
}

func rule(r api.Rule) api.Rule {
	return api.Rule{Deny: r.Deny, Who: strings.Clone(r.Who), What: strings.Clone(r.What), Actions: list(r.Actions, strings.Clone), Cond: r.Cond, Level: r.Level}
}

// Triple is the same triple, with texts that nobody else has.
func Triple(t api.Triple) api.Triple {
	return api.Triple{Subject: strings.Clone(t.Subject), Object: strings.Clone(t.Object), Action: strings.Clone(t.Action)}
}

func delta(d api.Delta) api.Delta {
	return api.Delta{Kind: d.Kind, Rule: rule(d.Rule), At: d.At, Name: strings.Clone(d.Name), Trust: d.Trust, Pair: pair(d.Pair), Triple: Triple(d.Triple)}
}
