package canon

import (
	"strings"

	"gatehouse/api"
)

// Decls are a policy's declarations.
func Decls(p api.Policy) []api.Decl {
	var l []api.Decl
	l = addNames(l, api.DeclAction, p.Actions)
	l = addSubjects(l, p.Subjects)
	l = addNames(l, api.DeclRole, p.Roles)
	l = addNames(l, api.DeclObject, p.Objects)
	l = addNames(l, api.DeclGroup, p.Groups)
	l = addPairs(l, api.DeclMember, p.Members)
	l = addPairs(l, api.DeclInherit, p.Inherits)
	l = addPairs(l, api.DeclPart, p.Parts)
	l = addPairs(l, api.DeclWithin, p.Withins)
	l = addRules(l, p.Rules)
	return addExcepts(l, p.Excepts)
}

func addNames(l []api.Decl, kind int8, items []string) []api.Decl {
	for _, s := range items {
		l = append(l, api.Decl{Kind: kind, Names: wordsOf(s)})
	}
	return l
}

func addSubjects(l []api.Decl, items []api.Subject) []api.Decl {
	for _, s := range items {
		l = append(l, api.Decl{Kind: api.DeclSubject, Names: wordsOf(s.Name), Level: s.Trust})
	}
	return l
}

func addPairs(l []api.Decl, kind int8, items []api.Pair) []api.Decl {
	for _, p := range items {
		l = append(l, api.Decl{Kind: kind, Head: wordOf(p.From), Names: wordsOf(p.To)})
	}
	return l
}

func addRules(l []api.Decl, items []api.Rule) []api.Decl {
	for _, r := range items {
		l = append(l, declOfRule(r))
	}
	return l
}

func declOfRule(r api.Rule) api.Decl {
	d := api.Decl{
		Kind:  api.DeclAllow,
		Head:  wordOf(r.Who),
		On:    wordOf(r.What),
		Names: wordsOf(r.Actions...),
		All:   len(r.Actions) == 0,
		Cond:  r.Cond,
	}
	if r.Deny {
		d.Kind = api.DeclDeny
	}
	if r.Cond != api.Always {
		d.Level = r.Level
	}
	return d
}

func addExcepts(l []api.Decl, items []api.Triple) []api.Decl {
	for _, t := range items {
		l = append(l, api.Decl{
			Kind:  api.DeclExcept,
			Head:  wordOf(t.Subject),
			On:    wordOf(t.Object),
			Names: wordsOf(t.Action),
		})
	}
	return l
}

func wordsOf(texts ...string) []api.Word {
	var l []api.Word
	for _, s := range texts {
		l = append(l, wordOf(s))
	}
	return l
}

// An answer shares no memory with an argument, so a word has a text of its own.
func wordOf(s string) api.Word {
	return api.Word{Text: strings.Clone(s)}
}
