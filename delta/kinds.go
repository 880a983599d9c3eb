package delta

import (
	"slices"

	"gatehouse/api"
)

// row is what the deltas of one kind do: they make the change, or say why there is nothing to be changed. A list that changes is a new one, as the old one is the caller's.
type row struct {
	kind int8
	does func(p *api.Policy, d api.Delta) api.Errno
}

func kinds() []row {
	return []row{
		{api.DeltaAllow, func(p *api.Policy, d api.Delta) api.Errno { return putIn(&p.Rules, d.Rule) }},
		{api.DeltaDrop, dropRule},
		{api.DeltaSubject, func(p *api.Policy, d api.Delta) api.Errno {
			return putIn(&p.Subjects, api.Subject{Name: d.Name, Trust: d.Trust})
		}},
		{api.DeltaRole, func(p *api.Policy, d api.Delta) api.Errno { return putIn(&p.Roles, d.Name) }},
		{api.DeltaObject, func(p *api.Policy, d api.Delta) api.Errno { return putIn(&p.Objects, d.Name) }},
		{api.DeltaGroup, func(p *api.Policy, d api.Delta) api.Errno { return putIn(&p.Groups, d.Name) }},
		{api.DeltaMember, func(p *api.Policy, d api.Delta) api.Errno { return putIn(&p.Members, d.Pair) }},
		{api.DeltaInherit, func(p *api.Policy, d api.Delta) api.Errno { return putIn(&p.Inherits, d.Pair) }},
		{api.DeltaPart, func(p *api.Policy, d api.Delta) api.Errno { return putIn(&p.Parts, d.Pair) }},
		{api.DeltaWithin, func(p *api.Policy, d api.Delta) api.Errno { return putIn(&p.Withins, d.Pair) }},
		{api.DeltaUnmember, func(p *api.Policy, d api.Delta) api.Errno { return takeOut(&p.Members, d.Pair, api.ErrNoPair) }},
		{api.DeltaDisown, func(p *api.Policy, d api.Delta) api.Errno { return takeOut(&p.Inherits, d.Pair, api.ErrNoPair) }},
		{api.DeltaUnpart, func(p *api.Policy, d api.Delta) api.Errno { return takeOut(&p.Parts, d.Pair, api.ErrNoPair) }},
		{api.DeltaUnwithin, func(p *api.Policy, d api.Delta) api.Errno { return takeOut(&p.Withins, d.Pair, api.ErrNoPair) }},
		{api.DeltaExcept, func(p *api.Policy, d api.Delta) api.Errno { return putIn(&p.Excepts, d.Triple) }},
		{api.DeltaRestore, func(p *api.Policy, d api.Delta) api.Errno { return takeOut(&p.Excepts, d.Triple, api.ErrNoExcept) }},
		{api.DeltaTrust, setTrust},
	}
}

func makeChange(p *api.Policy, d api.Delta) api.Errno {
	for _, r := range kinds() {
		if r.kind == d.Kind {
			return r.does(p, d)
		}
	}
	return api.ErrKind
}

// putIn is refused by nothing here: what may not be there is seen in the policy that comes of it.
func putIn[T any](list *[]T, thing T) api.Errno {
	*list = slices.Concat(*list, []T{thing})
	return api.OK
}

func takeOut[T comparable](list *[]T, thing T, none api.Errno) api.Errno {
	at := slices.Index(*list, thing)
	if at < 0 {
		return none
	}
	*list = without(*list, at)
	return api.OK
}

func without[T any](list []T, at int) []T {
	return slices.Concat(list[:at], list[at+1:])
}

func dropRule(p *api.Policy, d api.Delta) api.Errno {
	if d.At < 1 || d.At > len(p.Rules) {
		return api.ErrNoRule
	}
	p.Rules = without(p.Rules, d.At-1)
	return api.OK
}

func setTrust(p *api.Policy, d api.Delta) api.Errno {
	at := subjectAt(*p, d.Name)
	if at < 0 {
		return api.ErrUnknown
	}
	p.Subjects = slices.Clone(p.Subjects)
	p.Subjects[at].Trust = d.Trust
	return api.OK
}

func subjectAt(p api.Policy, name string) int {
	return slices.IndexFunc(p.Subjects, func(s api.Subject) bool { return s.Name == name })
}
