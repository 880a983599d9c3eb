package parse

import "gatehouse/api"

func (r *reader) text() []api.Decl {
	var decls []api.Decl
	for !r.atEnd() {
		decls = append(decls, r.decl())
	}
	return decls
}

func (r *reader) decl() api.Decl {
	d := r.beginning()
	switch d.Kind {
	case api.DeclSubject:
		d.Names = r.names()
		d.Level = r.trust()
	case api.DeclMember, api.DeclInherit, api.DeclPart, api.DeclWithin:
		d.Head = r.name()
		r.sign(":")
		d.Names = r.names()
	case api.DeclAllow, api.DeclDeny:
		d.Head, d.On = r.whoOnWhat()
		d.Names, d.All = r.actions()
		d.Cond, d.Level = r.condition()
	case api.DeclExcept:
		d.Head, d.On = r.whoOnWhat()
		d.Names = r.names()
	default:
		d.Names = r.names()
	}
	r.sign(";")
	return d
}

// beginning is a declaration of which the keyword alone is known.
func (r *reader) beginning() api.Decl {
	t := r.peek()
	kind, ok := kindOf(t.Text)
	if !ok || t.Kind != api.TokenWord {
		r.refuse(api.ErrSyntax)
	}
	r.next++
	return api.Decl{Kind: kind, Line: t.Line, Col: t.Col}
}

// trust is 1 where the text says nothing of it.
func (r *reader) trust() float64 {
	if r.passKeyword("trust") {
		return r.number()
	}
	return 1
}

func (r *reader) whoOnWhat() (who, what api.Word) {
	who = r.name()
	r.keyword("on")
	what = r.name()
	r.sign(":")
	return who, what
}

// actions are names, or all of them.
func (r *reader) actions() ([]api.Word, bool) {
	if r.passSign("*") {
		return nil, true
	}
	return r.names(), false
}

func (r *reader) condition() (int8, float64) {
	switch {
	case r.passKeyword("above"):
		return api.Above, r.number()
	case r.passKeyword("below"):
		return api.Below, r.number()
	}
	return api.Always, 0
}
