package valid

import (
	"strings"

	"gatehouse/api"
	"gatehouse/canon"
)

// space has the names of one space, each with the kind of declaration that declared it.
type space map[string]int8

// builder has the policy as far as it is made. Behind a fault it is of no more use.
type builder struct {
	policy  api.Policy
	whos    space
	whats   space
	actions space
	count   [api.DeclGroup + 1]int // how many names each kind has declared
}

func newBuilder() *builder {
	return &builder{whos: make(space), whats: make(space), actions: make(space)}
}

// build goes over the declarations twice: a name may be used ahead of the place where it is declared.
func (b *builder) build(decls []api.Decl) *api.Fault {
	for _, d := range decls {
		if f := b.declare(d); f != nil {
			return f
		}
	}
	for _, d := range decls {
		if f := b.use(d); f != nil {
			return f
		}
	}
	// What has come so far can be written, so the text is there.
	if text, _ := canon.Text(b.policy); len(text) > api.MaxText {
		return &api.Fault{Code: api.ErrLong}
	}
	return nil
}

func (b *builder) spaceOf(kind int8) space {
	switch kind {
	case api.DeclSubject, api.DeclRole:
		return b.whos
	case api.DeclObject, api.DeclGroup:
		return b.whats
	}
	return b.actions
}

// is says whether a name is declared as that kind.
func (b *builder) is(kind int8, name string) bool {
	return b.spaceOf(kind)[name] == kind
}

// faultAt has a copy of the word's text: an answer shares no memory with an argument.
func faultAt(w api.Word, code api.Errno) *api.Fault {
	return &api.Fault{Code: code, Line: w.Line, Col: w.Col, Word: strings.Clone(w.Text)}
}

func mayBeWritten(x float64) bool {
	_, ok := canon.Number(x)
	return ok
}
