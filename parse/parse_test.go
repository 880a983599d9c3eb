package parse_test

import (
	"errors"
	"slices"
	"strings"
	"testing"
	"unsafe"

	"gatehouse/api"
	"gatehouse/lex"
	"gatehouse/parse"
)

func at(text string, line, col int) api.Word { return api.Word{Text: text, Line: line, Col: col} }

func word(text string) api.Token { return api.Token{Kind: api.TokenWord, Text: text} }

func quoted(text string) api.Token { return api.Token{Kind: api.TokenQuoted, Text: text} }

func number(text string) api.Token { return api.Token{Kind: api.TokenNumber, Text: text} }

func sign(text string) api.Token { return api.Token{Kind: api.TokenSign, Text: text} }

func end(line, col int) api.Token { return api.Token{Kind: api.TokenEnd, Line: line, Col: col} }

func keywords() []string {
	return []string{"action", "subject", "trust", "role", "object", "group", "member", "inherit", "part", "within", "allow", "deny", "on", "above", "below", "except"}
}

// bare makes tokens without places of a text: words that begin with ' are quoted names.
func bare(text string) []api.Token {
	var tokens []api.Token
	for _, s := range strings.Fields(text) {
		switch {
		case strings.Contains(",:;*", s):
			tokens = append(tokens, sign(s))
		case s[0] >= '0' && s[0] <= '9':
			tokens = append(tokens, number(s))
		case s[0] == '\'':
			tokens = append(tokens, quoted(s[1:]))
		default:
			tokens = append(tokens, word(s))
		}
	}
	return tokens
}

// placed gives each token a place of its own.
func placed(tokens []api.Token) []api.Token {
	tokens = slices.Clone(tokens)
	for i := range tokens {
		tokens[i].Line, tokens[i].Col = i/3+1, i%3*10+1
	}
	return tokens
}

func bareNames(texts ...string) []api.Word {
	var names []api.Word
	for _, s := range texts {
		names = append(names, api.Word{Text: s})
	}
	return names
}

func sameDecls(a, b []api.Decl) bool {
	return slices.EqualFunc(a, b, func(x, y api.Decl) bool {
		return x.Kind == y.Kind && x.Line == y.Line && x.Col == y.Col && x.Head == y.Head && x.On == y.On &&
			slices.Equal(x.Names, y.Names) && x.All == y.All && x.Cond == y.Cond && x.Level == y.Level
	})
}

func faultOf(err error) *api.Fault {
	var f *api.Fault
	if errors.As(err, &f) {
		return f
	}
	return nil
}

func wantDecls(t *testing.T, tokens []api.Token, want ...api.Decl) {
	t.Helper()
	got, err := parse.Decls(tokens)
	if err != nil || !sameDecls(got, want) {
		t.Errorf("Decls(%v) = %+v, %v, want %+v", tokens, got, err, want)
	}
}

func wantFault(t *testing.T, tokens []api.Token, want api.Fault) {
	t.Helper()
	got, err := parse.Decls(tokens)
	if f := faultOf(err); f == nil || *f != want || len(got) != 0 {
		t.Errorf("Decls(%v) = %+v, %v, want %v", tokens, got, err, &want)
	}
	if !errors.Is(err, want.Code) {
		t.Errorf("Decls(%v): %v is not its number", tokens, err)
	}
}

func wantText(t *testing.T, text string, want ...api.Decl) {
	t.Helper()
	got, err := parse.Parse(text)
	if err != nil || !sameDecls(got, want) {
		t.Errorf("Parse(%q) = %+v, %v, want %+v", text, got, err, want)
	}
}

func wantTextFault(t *testing.T, text string, want api.Fault) {
	t.Helper()
	got, err := parse.Parse(text)
	if f := faultOf(err); f == nil || *f != want || len(got) != 0 {
		t.Errorf("Parse(%.80q) = %+v, %v, want %v", text, got, err, &want)
	}
	if !errors.Is(err, want.Code) {
		t.Errorf("Parse(%.80q): %v is not its number", text, err)
	}
}

func TestTextsWithoutDeclarations(t *testing.T) {
	for _, text := range []string{"", " ", "\n\n", "# nothing", "# action a;\n"} {
		wantText(t, text)
	}
	wantDecls(t, nil)
	wantDecls(t, []api.Token{})
	wantDecls(t, []api.Token{end(0, 0)})
	wantDecls(t, []api.Token{end(7, 9), sign(";")})
}

func TestDeclarationsOfEachKind(t *testing.T) {
	for keyword, kind := range map[string]int8{"action": api.DeclAction, "role": api.DeclRole, "object": api.DeclObject, "group": api.DeclGroup} {
		wantDecls(t, bare(keyword+" a ;"), api.Decl{Kind: kind, Names: bareNames("a")})
		wantDecls(t, bare(keyword+" a , 'b , c ;"), api.Decl{Kind: kind, Names: bareNames("a", "b", "c")})
	}
	wantDecls(t, bare("subject a ;"), api.Decl{Kind: api.DeclSubject, Names: bareNames("a"), Level: 1})
	wantDecls(t, bare("subject a , b ;"), api.Decl{Kind: api.DeclSubject, Names: bareNames("a", "b"), Level: 1})
	wantDecls(t, bare("subject a trust 0.5 ;"), api.Decl{Kind: api.DeclSubject, Names: bareNames("a"), Level: 0.5})
	wantDecls(t, bare("subject a , 'b , a trust 0 ;"), api.Decl{Kind: api.DeclSubject, Names: bareNames("a", "b", "a")})
	wantDecls(t, bare("subject a trust 1 ;"), api.Decl{Kind: api.DeclSubject, Names: bareNames("a"), Level: 1})
	for keyword, kind := range map[string]int8{"member": api.DeclMember, "inherit": api.DeclInherit, "part": api.DeclPart, "within": api.DeclWithin} {
		wantDecls(t, bare(keyword+" a : b ;"), api.Decl{Kind: kind, Head: api.Word{Text: "a"}, Names: bareNames("b")})
		wantDecls(t, bare(keyword+" 'a : b , 'c , a ;"), api.Decl{Kind: kind, Head: api.Word{Text: "a"}, Names: bareNames("b", "c", "a")})
	}
	wantDecls(t, bare("except a on b : c ;"), api.Decl{Kind: api.DeclExcept, Head: api.Word{Text: "a"}, On: api.Word{Text: "b"}, Names: bareNames("c")})
	wantDecls(t, bare("except 'a on 'b : 'c , d ;"), api.Decl{Kind: api.DeclExcept, Head: api.Word{Text: "a"}, On: api.Word{Text: "b"}, Names: bareNames("c", "d")})
}

func TestRules(t *testing.T) {
	conditions := map[string]api.Decl{
		"":             {},
		"above 0.25":   {Cond: api.Above, Level: 0.25},
		"below 0.125":  {Cond: api.Below, Level: 0.125},
		"above 0":      {Cond: api.Above},
		"below 1":      {Cond: api.Below, Level: 1},
		"below 0.0":    {Cond: api.Below},
		"above 0.5000": {Cond: api.Above, Level: 0.5},
	}
	actions := map[string]api.Decl{"*": {All: true}, "c": {Names: bareNames("c")}, "c , 'd , e": {Names: bareNames("c", "d", "e")}, "'*": {Names: bareNames("*")}}
	for keyword, kind := range map[string]int8{"allow": api.DeclAllow, "deny": api.DeclDeny} {
		for written, a := range actions {
			for condition, c := range conditions {
				want := api.Decl{Kind: kind, Head: api.Word{Text: "a"}, On: api.Word{Text: "b"}, Names: a.Names, All: a.All, Cond: c.Cond, Level: c.Level}
				wantDecls(t, bare(keyword+" a on 'b : "+written+" "+condition+" ;"), want)
			}
		}
	}
}

func TestPlacesAreThoseOfTheTokens(t *testing.T) {
	wantText(t, "action open, read;", api.Decl{Kind: 1, Line: 1, Col: 1, Names: []api.Word{at("open", 1, 8), at("read", 1, 14)}})
	wantText(t, "subject bob, ann trust 0.5;", api.Decl{Kind: 2, Line: 1, Col: 1, Names: []api.Word{at("bob", 1, 9), at("ann", 1, 14)}, Level: 0.5})
	wantText(t, "subject bob;", api.Decl{Kind: 2, Line: 1, Col: 1, Names: []api.Word{at("bob", 1, 9)}, Level: 1})
	wantText(t, "member ann : clerk;\nallow clerk on door1 : * above 0.25;",
		api.Decl{Kind: 6, Line: 1, Col: 1, Head: at("ann", 1, 8), Names: []api.Word{at("clerk", 1, 14)}},
		api.Decl{Kind: 10, Line: 2, Col: 1, Head: at("clerk", 2, 7), On: at("door1", 2, 16), All: true, Cond: api.Above, Level: 0.25})
	wantText(t, "except ann on \"on\" : open;", api.Decl{Kind: 12, Line: 1, Col: 1, Head: at("ann", 1, 8), On: at("on", 1, 15), Names: []api.Word{at("open", 1, 22)}})
	wantText(t, "# c\n  deny\n\"\u00e9\" on\tb\n:c\n,d;role r;",
		api.Decl{Kind: 11, Line: 2, Col: 3, Head: at("\u00e9", 3, 1), On: at("b", 3, 8), Names: []api.Word{at("c", 4, 2), at("d", 5, 2)}},
		api.Decl{Kind: 3, Line: 5, Col: 4, Names: []api.Word{at("r", 5, 9)}})
	tokens := bare("allow a on b : c ;")
	for i := range tokens {
		tokens[i].Line, tokens[i].Col = -i, 100*i
	}
	wantDecls(t, tokens, api.Decl{Kind: 10, Head: at("a", -1, 100), On: at("b", -3, 300), Names: []api.Word{at("c", -5, 500)}})
}

func TestWholePolicy(t *testing.T) {
	text := "# who is there\naction open, read;\nsubject ann, bob trust 0.5;\nrole clerk;\nobject vault;\ngroup doors;\nmember ann : clerk;\ninherit clerk : clerk;\npart vault : doors;\nwithin doors : doors;\nallow clerk on doors : open;\ndeny ann on vault : *;\nexcept ann on vault : read;\n"
	decls, err := parse.Parse(text)
	if err != nil || len(decls) != 12 {
		t.Fatalf("Parse: %+v, %v", decls, err)
	}
	for i, kind := range []int8{1, 2, 3, 4, 5, 6, 7, 8, 9, 10, 11, 12} {
		if d := decls[i]; d.Kind != kind || d.Line != i+2 || d.Col != 1 {
			t.Errorf("declaration %d: %+v", i, d)
		}
	}
}

func TestKeywordsInQuotesAreNames(t *testing.T) {
	for _, k := range keywords() {
		wantDecls(t, []api.Token{word("role"), quoted(k), sign(";")}, api.Decl{Kind: api.DeclRole, Names: bareNames(k)})
		wantText(t, "role \""+k+"\";", api.Decl{Kind: api.DeclRole, Line: 1, Col: 1, Names: []api.Word{at(k, 1, 6)}})
		name := api.Word{Text: k}
		wantDecls(t, []api.Token{word("deny"), quoted(k), word("on"), quoted(k), sign(":"), quoted(k), sign(","), quoted(k), sign(";")},
			api.Decl{Kind: api.DeclDeny, Head: name, On: name, Names: bareNames(k, k)})
	}
}

func TestWordsAndQuotedNamesOfAnyText(t *testing.T) {
	for _, text := range []string{"", ";", ",", ":", "*", "0", "0.5", "2", "Role", "ROLE", "roles", "rol", " role", "role ", "On", "a b", "\x00", "\xff", strings.Repeat("x", 100)} {
		want := api.Decl{Kind: api.DeclRole, Names: bareNames(text, text)}
		wantDecls(t, []api.Token{word("role"), word(text), sign(","), quoted(text), sign(";")}, want)
	}
}

func TestRefusalsOfLexComeFirst(t *testing.T) {
	wantTextFault(t, "role a; $ role", api.Fault{Code: api.ErrByte, Line: 1, Col: 9, Word: "$"})
	wantTextFault(t, "; ; $", api.Fault{Code: api.ErrByte, Line: 1, Col: 5, Word: "$"})
	wantTextFault(t, "subject a trust 2;", api.Fault{Code: api.ErrNumber, Line: 1, Col: 17, Word: "2"})
	wantTextFault(t, "2", api.Fault{Code: api.ErrNumber, Line: 1, Col: 1, Word: "2"})
	wantTextFault(t, "role \"\";", api.Fault{Code: api.ErrName, Line: 1, Col: 6})
	wantTextFault(t, "role \"a", api.Fault{Code: api.ErrQuote, Line: 1, Col: 6, Word: "\""})
	wantTextFault(t, "role\n\"\\x\"", api.Fault{Code: api.ErrEscape, Line: 2, Col: 2, Word: "\\x"})
	wantTextFault(t, strings.Repeat(";", api.MaxText+1), api.Fault{Code: api.ErrLong})
	wantTextFault(t, strings.Repeat(";", api.MaxText), api.Fault{Code: api.ErrSyntax, Line: 1, Col: 1, Word: ";"})
	wantText(t, "role a;"+strings.Repeat(" ", api.MaxText-7), api.Decl{Kind: 3, Line: 1, Col: 1, Names: []api.Word{at("a", 1, 6)}})
}

func TestParseIsDeclsOfTheTokens(t *testing.T) {
	for _, text := range []string{"", "role a;", "role a; role", "allow a on b: *;", "allow a on b: * above", "\n\n role\n\n", "trust 1;", "subject a trust 0.25;x"} {
		tokens, err := lex.Scan(text)
		if err != nil {
			t.Fatal(err)
		}
		decls, err := parse.Decls(tokens)
		if err == nil {
			wantText(t, text, decls...)
		} else {
			wantTextFault(t, text, *faultOf(err))
		}
	}
}

func TestAnswersAreNewMemory(t *testing.T) {
	tokens := placed(bare("role a , b ; allow c on d : e , f ; group g ;"))
	given := slices.Clone(tokens)
	decls, err := parse.Decls(tokens)
	if err != nil {
		t.Fatal(err)
	}
	again, _ := parse.Decls(tokens)
	if !slices.Equal(tokens, given) {
		t.Errorf("the tokens have become %v", tokens)
	}
	clear(tokens)
	if !sameDecls(decls, again) || decls[0].Names[0].Text != "a" {
		t.Errorf("the declarations hang on the tokens: %+v", decls)
	}
	for i := range decls {
		_ = append(decls[i].Names, at("x", 9, 9), at("x", 9, 9))
		_ = append(decls[i].Names[:0], decls[i].Names...)
	}
	_ = append(decls, api.Decl{Kind: 99})
	if !sameDecls(decls, again) {
		t.Errorf("lists of one answer share their room: %+v", decls)
	}
}

func TestTextsOfAnswersAreNewMemory(t *testing.T) {
	text := strings.Clone("some-name")
	decls, err := parse.Decls([]api.Token{word("allow"), word(text), word("on"), quoted(text), sign(":"), word(text), sign(";")})
	if err != nil {
		t.Fatal(err)
	}
	for _, w := range []api.Word{decls[0].Head, decls[0].On, decls[0].Names[0]} {
		if unsafe.StringData(w.Text) == unsafe.StringData(text) {
			t.Errorf("%v shares the token's text", w)
		}
	}
	_, err = parse.Decls([]api.Token{word(text)})
	if unsafe.StringData(faultOf(err).Word) == unsafe.StringData(text) {
		t.Errorf("%v shares the token's text", err)
	}
}
