package parse_test

import (
	"slices"
	"testing"

	"gatehouse/api"
	"gatehouse/parse"
)

// written is the way back: the tokens of a declaration.
func written(d api.Decl) []api.Token {
	tokens := []api.Token{{Kind: api.TokenWord, Text: []string{"", "action", "subject", "role", "object", "group", "member", "inherit", "part", "within", "allow", "deny", "except"}[d.Kind], Line: d.Line, Col: d.Col}}
	name := func(w api.Word) {
		kind := api.TokenWord
		if w.Col%2 == 0 {
			kind = api.TokenQuoted
		}
		tokens = append(tokens, api.Token{Kind: kind, Text: w.Text, Line: w.Line, Col: w.Col})
	}
	if d.Kind >= api.DeclMember {
		name(d.Head)
	}
	if d.Kind >= api.DeclAllow {
		tokens = append(tokens, word("on"))
		name(d.On)
	}
	if d.Kind >= api.DeclMember {
		tokens = append(tokens, sign(":"))
	}
	if d.All {
		tokens = append(tokens, sign("*"))
	}
	for i, w := range d.Names {
		if i > 0 {
			tokens = append(tokens, sign(","))
		}
		name(w)
	}
	level := number(map[float64]string{0: "0", 0.5: "0.5", 0.125: "0.125", 1: "1"}[d.Level])
	switch {
	case d.Kind == api.DeclSubject && (d.Level != 1 || d.Line%2 == 0):
		tokens = append(tokens, word("trust"), level)
	case d.Cond == api.Above:
		tokens = append(tokens, word("above"), level)
	case d.Cond == api.Below:
		tokens = append(tokens, word("below"), level)
	}
	return append(tokens, sign(";"))
}

func someWord(d *dice) api.Word {
	return api.Word{Text: []string{"a", "bob", "a-b", "x_1", "Role"}[d.roll(5)], Line: d.roll(100), Col: d.roll(100)}
}

func someDecl(d *dice) api.Decl {
	made := api.Decl{Kind: int8(d.roll(12) + 1), Line: d.roll(100), Col: d.roll(100)}
	if made.Kind >= api.DeclMember {
		made.Head = someWord(d)
	}
	if made.Kind >= api.DeclAllow {
		made.On = someWord(d)
	}
	levels := []float64{0, 0.5, 0.125, 1}
	if made.Kind == api.DeclSubject {
		made.Level = levels[d.roll(4)]
	}
	if made.Kind == api.DeclAllow || made.Kind == api.DeclDeny {
		made.All = d.roll(3) == 0
		if made.Cond = int8(d.roll(3)); made.Cond != api.Always {
			made.Level = levels[d.roll(4)]
		}
	}
	if !made.All {
		for range 1 + d.roll(4) {
			made.Names = append(made.Names, someWord(d))
		}
	}
	return made
}

func someText(d *dice) ([]api.Token, []api.Decl) {
	var tokens []api.Token
	var decls []api.Decl
	for range d.roll(6) {
		decls = append(decls, someDecl(d))
		tokens = append(tokens, written(decls[len(decls)-1])...)
	}
	return tokens, decls
}

func TestDeclarationsThatAreWrittenAreReadAgain(t *testing.T) {
	d := dice(1)
	for range 3000 {
		tokens, decls := someText(&d)
		wantDecls(t, tokens, decls...)
	}
}

func TestTwoListsOneBehindTheOther(t *testing.T) {
	d := dice(2)
	for range 500 {
		first, of1 := someText(&d)
		second, of2 := someText(&d)
		wantDecls(t, slices.Concat(first, second), slices.Concat(of1, of2)...)
		wantDecls(t, slices.Concat(first, []api.Token{end(1, 1)}, second), of1...)
	}
}

func TestWhatStandsBehindAnEndDoesNotMatter(t *testing.T) {
	behind := [][]api.Token{nil, {sign(";")}, {end(9, 9)}, bare("role b ;"), bare("role"), {{Kind: 77}}, {number("2")}}
	for _, b := range behind {
		wantDecls(t, append([]api.Token{end(1, 2)}, b...))
		wantDecls(t, append(append(bare("role a ;"), end(1, 2)), b...), api.Decl{Kind: api.DeclRole, Names: bareNames("a")})
		wantFault(t, append(append(bare("role a"), end(3, 4)), b...), api.Fault{Code: api.ErrSyntax, Line: 3, Col: 4})
		wantFault(t, append(append(bare("subject a trust"), end(0, 0)), b...), api.Fault{Code: api.ErrSyntax})
		wantFault(t, append(append(bare("role ;"), end(3, 4)), b...), api.Fault{Code: api.ErrSyntax, Word: ";"})
	}
}

func TestWhatStandsBehindAFaultDoesNotMatter(t *testing.T) {
	d := dice(3)
	all := samples()
	for range 2000 {
		tokens, _ := someText(&d)
		tokens = slices.Insert(tokens, d.roll(len(tokens)+1), all[d.roll(len(all))])
		tokens = placed(tokens)
		_, err := parse.Decls(tokens)
		fault := faultOf(err)
		if fault == nil || fault.Line == 0 {
			continue // none, or at the end: there what stands behind goes on
		}
		n := slices.IndexFunc(tokens, func(token api.Token) bool { return token.Line == fault.Line && token.Col == fault.Col })
		wantFault(t, tokens[:n+1], *fault)
		for _, behind := range [][]api.Token{{end(5, 5)}, {sign(";")}, {number("2")}, bare("role a ;"), {{Kind: -3}}} {
			wantFault(t, append(tokens[:n+1:n+1], behind...), *fault)
		}
	}
}
