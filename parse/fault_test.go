package parse_test

import (
	"strings"
	"testing"

	"gatehouse/api"
)

// whole has declarations in which all the grammar's turns are taken.
func whole() []string {
	return []string{
		"action a ;", "role a , 'b ;", "object a , b , c ;", "group 'a ;",
		"subject a ;", "subject a , b trust 0.5 ;",
		"member a : b ;", "inherit a : b , c ;", "part 'a : 'b ;", "within a : b , c , d ;",
		"allow a on b : * ;", "deny a on b : c ;", "allow a on b : c , d above 0 ;", "deny a on b : * below 1 ;",
		"except a on b : c ;", "except 'a on 'b : 'c , d ;",
	}
}

func TestFaultsOfTheExamples(t *testing.T) {
	for text, want := range map[string]api.Fault{
		"action":                      {Line: 1, Col: 7},
		"action open read;":           {Line: 1, Col: 13, Word: "read"},
		"role on;":                    {Line: 1, Col: 6, Word: "on"},
		"deny a on b : *, c;":         {Line: 1, Col: 16, Word: ","},
		"deny a on b : c, *;":         {Line: 1, Col: 18, Word: "*"},
		"member ann : clerk above 1;": {Line: 1, Col: 20, Word: "above"},
		"subject a trust b;":          {Line: 1, Col: 17, Word: "b"},
		"subject a trust 1; trust":    {Line: 1, Col: 20, Word: "trust"},
	} {
		want.Code = api.ErrSyntax
		wantTextFault(t, text, want)
	}
	wantDecls(t, bare("role 'on ;"), api.Decl{Kind: api.DeclRole, Names: bareNames("on")})
	wantFault(t, bare("role x"), api.Fault{Code: api.ErrSyntax})
	wantFault(t, bare("subject x trust 2 ;"), api.Fault{Code: api.ErrNumber, Word: "2"})
	wantFault(t, bare("2"), api.Fault{Code: api.ErrSyntax, Word: "2"})
	wantDecls(t, []api.Token{word("role"), quoted(""), sign(";"), end(0, 0), sign(";")}, api.Decl{Kind: api.DeclRole, Names: bareNames("")})
}

func TestTextsCutOffBehindEachToken(t *testing.T) {
	for _, text := range whole() {
		tokens := placed(bare("role first ; " + text))
		for n := 4; n < len(tokens); n++ {
			cut := tokens[:n]
			wantFault(t, cut, api.Fault{Code: api.ErrSyntax})
			wantFault(t, append(cut[:n:n], end(12, 34)), api.Fault{Code: api.ErrSyntax, Line: 12, Col: 34})
			wantFault(t, append(cut[:n:n], end(0, 0), sign(";")), api.Fault{Code: api.ErrSyntax})
			behind := end(5, 6)
			behind.Text = "the end's own text is no Word"
			wantFault(t, append(cut[:n:n], behind, end(7, 8)), api.Fault{Code: api.ErrSyntax, Line: 5, Col: 6})
		}
	}
	wantTextFault(t, "role a", api.Fault{Code: api.ErrSyntax, Line: 1, Col: 7})
	wantTextFault(t, "role a # ;\n\n  ", api.Fault{Code: api.ErrSyntax, Line: 3, Col: 3})
}

func TestKeywordsWhereANameIsWanted(t *testing.T) {
	for _, text := range whole() {
		tokens := placed(bare(text))
		for i, token := range tokens {
			if i == 0 || token.Kind != api.TokenQuoted && (token.Kind != api.TokenWord || len(token.Text) > 1) {
				continue
			}
			for _, k := range keywords() {
				changed := placed(tokens)
				changed[i].Kind, changed[i].Text = api.TokenWord, k
				wantFault(t, changed, api.Fault{Code: api.ErrSyntax, Line: token.Line, Col: token.Col, Word: k})
			}
		}
	}
}

func TestNamesWhereAKeywordIsWanted(t *testing.T) {
	for _, text := range whole() {
		tokens := placed(bare(text))
		for i, token := range tokens {
			if token.Kind != api.TokenWord || len(token.Text) == 1 {
				continue
			}
			for _, name := range []api.Token{word("x"), quoted("x"), quoted(token.Text), word(strings.ToUpper(token.Text)), sign(token.Text), number(token.Text)} {
				changed := placed(tokens)
				changed[i].Kind, changed[i].Text = name.Kind, name.Text
				wantFault(t, changed, api.Fault{Code: api.ErrSyntax, Line: token.Line, Col: token.Col, Word: name.Text})
			}
		}
	}
}

func TestOtherKeywordsWhereOneIsWanted(t *testing.T) {
	for _, c := range []struct{ ahead, wrong string }{
		{"", "trust on above below"},
		{"role a ;", "trust on above below"},
		{"allow a", "trust above below role allow"},
		{"allow a on b : c", "trust on allow"},
		{"subject a", "above below on subject"},
		{"action a", "trust above below on action"},
		{"except a on b : c", "trust above below on except"},
		{"member a : b", "trust above below on member"},
		{"member a", "on"},
		{"subject a trust 1", "trust above"},
		{"deny a on b : * above 1", "above below trust"},
	} {
		for _, k := range strings.Fields(c.wrong) {
			tokens := placed(append(bare(c.ahead), bare(k+" 1 ;")...))
			token := tokens[len(tokens)-3]
			wantFault(t, tokens, api.Fault{Code: api.ErrSyntax, Line: token.Line, Col: token.Col, Word: k})
		}
	}
}

func TestStarBesideNames(t *testing.T) {
	for text, n := range map[string]int{
		"allow a on b : * , c ;": 6, "allow a on b : c , * ;": 7, "allow a on b : * c ;": 6, "allow a on b : c * ;": 6, "allow a on b : * * ;": 6,
		"except a on b : * ;": 5, "member a : * ;": 3, "role * ;": 1, "subject * ;": 1, "allow * on b : c ;": 1, "allow a on * : c ;": 3,
	} {
		tokens := placed(bare(text))
		wantFault(t, tokens, api.Fault{Code: api.ErrSyntax, Line: tokens[n].Line, Col: tokens[n].Col, Word: tokens[n].Text})
	}
}

func TestSignsOutOfPlace(t *testing.T) {
	for text, n := range map[string]int{
		";": 0, ",": 0, ":": 0, "*": 0, "role ;": 1, "role , a ;": 1, "role a , ;": 3, "role a , , b ;": 3, "role a : b ;": 2, "role a ; ;": 3,
		"member a ;": 2, "member a , b : c ;": 2, "member : a ;": 1, "member a : ;": 3, "member a : b : c ;": 4, "member a b ;": 2,
		"allow a : b ;": 2, "allow a on b ;": 4, "allow a , b on c : d ;": 2, "allow a on b , c : d ;": 4, "allow a on b : ;": 5, "allow a on b : above 1 ;": 5,
		"allow a on b : c above ;": 7, "allow a on b : c above 1 , d ;": 8, "subject a trust ;": 3, "subject a trust 1 , b ;": 4, "subject trust 1 ;": 1, "subject a , trust 1 ;": 3,
		"role a role b ;": 2, "allow a on b : * above 1 below 1 ;": 8,
	} {
		tokens := placed(bare(text))
		wantFault(t, tokens, api.Fault{Code: api.ErrSyntax, Line: tokens[n].Line, Col: tokens[n].Col, Word: tokens[n].Text})
	}
}

func TestSignsThatTheGrammarDoesNotHave(t *testing.T) {
	for _, text := range whole() {
		tokens := placed(bare(text))
		for i, token := range tokens {
			for _, s := range []string{"", "=", ";;", " ;", "a", "(", "\x00", "1"} {
				changed := placed(tokens)
				changed[i].Kind, changed[i].Text = api.TokenSign, s
				wantFault(t, changed, api.Fault{Code: api.ErrSyntax, Line: token.Line, Col: token.Col, Word: s})
			}
		}
	}
}

func TestKindsThatTheListDoesNotHave(t *testing.T) {
	for _, text := range whole() {
		tokens := placed(bare(text))
		for i, token := range tokens {
			for _, kind := range []int8{0, -1, 6, 7, 127, -128} {
				changed := placed(tokens)
				changed[i].Kind = kind
				wantFault(t, changed, api.Fault{Code: api.ErrSyntax, Line: token.Line, Col: token.Col, Word: token.Text})
			}
		}
	}
}

func TestOneFaultHidesLaterOnes(t *testing.T) {
	wantFault(t, placed(bare("subject a trust 2 , trust 3")), api.Fault{Code: api.ErrNumber, Line: 2, Col: 1, Word: "2"})
	wantFault(t, placed(bare("subject trust 2 ;")), api.Fault{Code: api.ErrSyntax, Line: 1, Col: 11, Word: "trust"})
}
