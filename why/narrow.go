package why

import (
	"slices"

	"gatehouse/api"
)

// A policy that has of its subjects, objects or actions those alone that are asked for says of them what the whole one says: so mean is asked of the narrow one, and has less to go through.

// firstName is the piece of the list where the name stands first, empty if it does not stand there.
func firstName(names []string, name string) []string {
	return first(names, func(n string) bool { return n == name })
}

func firstSubject(subjects []api.Subject, name string) []api.Subject {
	return first(subjects, func(s api.Subject) bool { return s.Name == name })
}

func first[T any](list []T, wanted func(T) bool) []T {
	at := slices.IndexFunc(list, wanted)
	if at < 0 {
		return nil
	}
	return list[at : at+1]
}

// presence says of a triple's subject, object and action, in this order, whether they are there.
type presence [3]bool

func there(p api.Policy, t api.Triple) presence {
	return presence{
		len(firstSubject(p.Subjects, t.Subject)) > 0,
		len(firstName(p.Objects, t.Object)) > 0,
		len(firstName(p.Actions, t.Action)) > 0,
	}
}

func (p presence) all() bool { return p == presence{true, true, true} }
