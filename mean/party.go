package mean

import (
	"slices"
	"strings"

	"gatehouse/api"
	"gatehouse/reach"
)

// party is a subject or an object with all names by which a rule may mean it. Its name is a copy, as it may be answered. An object's trust counts for nothing.
type party struct {
	name  string
	trust float64
	names map[string]struct{}
}

func (p party) is(name string) bool {
	_, has := p.names[name]
	return has
}

// lines are pairs by what stands ahead in them: laid out once, whoever is asked for.
type lines map[string][]string

func linesOf(lists ...[]api.Pair) lines {
	l := lines{}
	for _, pairs := range lists {
		for _, p := range pairs {
			l[p.From] = append(l[p.From], p.To)
		}
	}
	return l
}

func (l lines) party(name string, trust float64) party {
	names := map[string]struct{}{}
	for _, n := range reach.Close([]string{name}, func(n string) []string { return l[n] }) {
		names[n] = struct{}{}
	}
	return party{name: strings.Clone(name), trust: trust, names: names}
}

func whoLines(p api.Policy) lines { return linesOf(p.Members, p.Inherits) }

func whatLines(p api.Policy) lines { return linesOf(p.Parts, p.Withins) }

// subjectOf is nobody where the name is not there: without names, so that no rule means it. So is objectOf.
func subjectOf(p api.Policy, name string) party {
	at := slices.IndexFunc(p.Subjects, func(s api.Subject) bool { return s.Name == name })
	if at < 0 {
		return party{}
	}
	return whoLines(p).party(name, p.Subjects[at].Trust)
}

func objectOf(p api.Policy, name string) party {
	if !slices.Contains(p.Objects, name) {
		return party{}
	}
	return whatLines(p).party(name, 0)
}

// firstSubjects has each name once, with the trust that stands first.
func firstSubjects(subjects []api.Subject) []api.Subject {
	seen := map[string]struct{}{}
	var first []api.Subject
	for _, s := range subjects {
		if _, again := seen[s.Name]; !again {
			seen[s.Name] = struct{}{}
			first = append(first, s)
		}
	}
	return first
}

func allObjects(p api.Policy) []party {
	l := whatLines(p)
	var all []party
	for _, name := range once(p.Objects) {
		all = append(all, l.party(name, 0))
	}
	return all
}

// once are copies of the names, each where it stands first.
func once(names []string) []string {
	seen := map[string]struct{}{}
	var first []string
	for _, name := range names {
		if _, again := seen[name]; !again {
			seen[name] = struct{}{}
			first = append(first, strings.Clone(name))
		}
	}
	return first
}
