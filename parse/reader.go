package parse

import "gatehouse/api"

// reader stands in front of the token that is next. Its methods give up by a panic with a misfit, which Decls catches: so none of them has to ask whether another one went well.
type reader struct {
	tokens []api.Token // those that count
	end    api.Token
	next   int
}

func readerOf(tokens []api.Token) *reader {
	for i, t := range tokens {
		if t.Kind == api.TokenEnd {
			return &reader{tokens: tokens[:i], end: api.Token{Kind: api.TokenEnd, Line: t.Line, Col: t.Col}}
		}
	}
	return &reader{tokens: tokens, end: api.Token{Kind: api.TokenEnd}}
}

func (r *reader) atEnd() bool { return r.next == len(r.tokens) }

func (r *reader) peek() api.Token {
	if r.atEnd() {
		return r.end
	}
	return r.tokens[r.next]
}

func (r *reader) refuse(code api.Errno) {
	panic(misfit{token: r.peek(), code: code})
}

// pass goes behind the next token if it is that sign or keyword.
func (r *reader) pass(kind int8, text string) bool {
	t := r.peek()
	if t.Kind != kind || t.Text != text {
		return false
	}
	r.next++
	return true
}

func (r *reader) passSign(text string) bool { return r.pass(api.TokenSign, text) }

func (r *reader) passKeyword(text string) bool { return r.pass(api.TokenWord, text) }

func (r *reader) sign(text string) {
	if !r.passSign(text) {
		r.refuse(api.ErrSyntax)
	}
}

func (r *reader) keyword(text string) {
	if !r.passKeyword(text) {
		r.refuse(api.ErrSyntax)
	}
}

func (r *reader) name() api.Word {
	t := r.peek()
	if !isName(t) {
		r.refuse(api.ErrSyntax)
	}
	r.next++
	return wordOf(t)
}

func (r *reader) names() []api.Word {
	names := []api.Word{r.name()}
	for r.passSign(",") {
		names = append(names, r.name())
	}
	return names
}

func (r *reader) number() float64 {
	t := r.peek()
	if t.Kind != api.TokenNumber {
		r.refuse(api.ErrSyntax)
	}
	if !isNumber(t.Text) {
		r.refuse(api.ErrNumber)
	}
	r.next++
	return meaning(t.Text)
}
