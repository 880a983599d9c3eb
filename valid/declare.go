package valid

import (
	"strings"

	"gatehouse/api"
	"gatehouse/names"
)

// declare takes what a declaration declares; one that uses names must wait until all are known.
func (b *builder) declare(d api.Decl) *api.Fault {
	if d.Kind < api.DeclAction || d.Kind > api.DeclExcept {
		return &api.Fault{Code: api.ErrArg, Line: d.Line, Col: d.Col}
	}
	if d.Kind > api.DeclGroup {
		return nil
	}
	for _, w := range d.Names {
		if e := b.refusal(d.Kind, w.Text, d.Level); e != api.OK {
			return faultAt(w, e)
		}
		b.put(d.Kind, strings.Clone(w.Text), d.Level)
	}
	return nil
}

// refusal is why a name can't be declared; trust counts for a subject alone.
func (b *builder) refusal(kind int8, name string, trust float64) api.Errno {
	switch {
	case !names.Valid(name):
		return api.ErrName
	case b.spaceOf(kind)[name] != 0:
		return api.ErrTwice
	case b.count[kind] >= limitOf(kind):
		return api.ErrMany
	case kind == api.DeclSubject && !mayBeWritten(trust):
		return api.ErrNumber
	}
	return api.OK
}

func limitOf(kind int8) int {
	if kind == api.DeclAction {
		return api.MaxActions
	}
	return api.MaxEach
}

func (b *builder) put(kind int8, name string, trust float64) {
	b.spaceOf(kind)[name] = kind
	b.count[kind]++
	p := &b.policy
	switch kind {
	case api.DeclAction:
		p.Actions = append(p.Actions, name)
	case api.DeclSubject:
		p.Subjects = append(p.Subjects, api.Subject{Name: name, Trust: trust})
	case api.DeclRole:
		p.Roles = append(p.Roles, name)
	case api.DeclObject:
		p.Objects = append(p.Objects, name)
	case api.DeclGroup:
		p.Groups = append(p.Groups, name)
	}
}
