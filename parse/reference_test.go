package parse_test

import (
	"regexp"
	"slices"
	"strings"
	"testing"

	"gatehouse/api"
	"gatehouse/parse"
)

// The grammar once more, as a pattern over one letter for each token.
var (
	wholeText  = regexp.MustCompile(`^(?:[AROG]N(?:,N)*;|SN(?:,N)*(?:T0)?;|[MIPW]N:N(?:,N)*;|[LD]NoN:(?:\*|N(?:,N)*)(?:[ab]0)?;|XNoN:N(?:,N)*;)*$`)
	endings    = endingsOf("AN,N;", "SN,NT0;", "MN:N,N;", "LNoN:*a0;", "LNoN:N,Na0;", "XNoN:N,N;")
	isNumber   = regexp.MustCompile(`^(?:0|1|0\.[0-9]{1,9})$`)
	tokenMarks = map[string]string{"action": "A", "subject": "S", "trust": "T", "role": "R", "object": "O", "group": "G", "member": "M", "inherit": "I", "part": "P", "within": "W", "allow": "L", "deny": "D", "on": "o", "above": "a", "below": "b", "except": "X"}
)

func endingsOf(decls ...string) []string {
	all := []string{""}
	for _, d := range decls {
		for i := range d {
			all = append(all, d[i:])
		}
	}
	return all
}

func mark(t api.Token) string {
	switch t.Kind {
	case api.TokenWord:
		if m := tokenMarks[t.Text]; m != "" {
			return m
		}
		return "N"
	case api.TokenQuoted:
		return "N"
	case api.TokenNumber:
		if isNumber.MatchString(t.Text) {
			return "0"
		}
	case api.TokenSign:
		if len(t.Text) == 1 && strings.Contains(",:;*", t.Text) {
			return t.Text
		}
	}
	return "?"
}

func goesOn(marks string) bool {
	return slices.ContainsFunc(endings, func(ending string) bool { return wholeText.MatchString(marks + ending) })
}

// reference is the fault of tokens, nil of a text; none of them is an end.
func reference(tokens []api.Token, end api.Token) *api.Fault {
	marks := ""
	for _, token := range tokens {
		if !goesOn(marks + mark(token)) {
			code := api.ErrSyntax
			if token.Kind == api.TokenNumber && goesOn(marks+"0") {
				code = api.ErrNumber
			}
			return &api.Fault{Code: code, Line: token.Line, Col: token.Col, Word: token.Text}
		}
		marks += mark(token)
	}
	if wholeText.MatchString(marks) {
		return nil
	}
	return &api.Fault{Code: api.ErrSyntax, Line: end.Line, Col: end.Col}
}

func wantAsReference(t *testing.T, tokens []api.Token) {
	t.Helper()
	last := end(77, 88)
	want := reference(tokens, last)
	got, err := parse.Decls(append(slices.Clone(tokens), last))
	f := faultOf(err)
	if want == nil && err != nil || want != nil && (f == nil || *f != *want || len(got) != 0) {
		t.Fatalf("Decls(%v) = %+v, %v, want %v", tokens, got, err, want)
	}
	if stops := strings.Count(marksOf(tokens), ";"); want == nil && len(got) != stops {
		t.Fatalf("Decls(%v) = %+v, want %d declarations", tokens, got, stops)
	}
}

func marksOf(tokens []api.Token) string {
	marks := ""
	for _, token := range tokens {
		marks += mark(token)
	}
	return marks
}

func samples() []api.Token {
	tokens := []api.Token{word("x"), quoted("on"), quoted(""), word(";"), number("0.5"), number("2"), number(""), sign(","), sign(":"), sign(";"), sign("*"), sign("="), {Kind: 0, Text: "x"}, {Kind: 6, Text: ";"}}
	for _, k := range keywords() {
		tokens = append(tokens, word(k))
	}
	return tokens
}

// fewSamples are enough where each kind of place has been tried with all.
func fewSamples() []api.Token {
	return []api.Token{word("x"), number("1"), number("2"), sign(","), sign(":"), sign(";"), sign("*"), word("role"), word("subject"), word("trust"), word("member"), word("allow"), word("on"), word("below"), word("except"), {Kind: 9}}
}

// tryAll lays each sample behind each beginning that goes on, up to a number of tokens.
func tryAll(t *testing.T, beginning, samples []api.Token, most int) int {
	t.Helper()
	tried := 0
	for _, s := range samples {
		s.Line, s.Col = len(beginning)+1, 5
		tokens := append(beginning[:len(beginning):len(beginning)], s)
		wantAsReference(t, tokens)
		tried++
		if len(tokens) < most && goesOn(marksOf(tokens)) {
			tried += tryAll(t, tokens, samples, most)
		}
	}
	return tried
}

func TestAllShortTextsAreReadAsTheGrammarSays(t *testing.T) {
	wantAsReference(t, nil)
	if tried := tryAll(t, nil, samples(), 4); tried < 1000 {
		t.Errorf("%d texts only", tried)
	}
	for _, ahead := range []string{"allow a on", "deny a on b :", "except a on", "subject a , b", "inherit a :", "allow a on b : c", "allow a on b : * above", "role a ;"} {
		tryAll(t, bare(ahead), samples(), len(bare(ahead))+3)
	}
	if tried := tryAll(t, nil, fewSamples(), 12); tried < 10000 {
		t.Errorf("%d texts only", tried)
	}
}

// dice throws numbers that hang on the seed alone.
type dice uint64

func (d *dice) roll(n int) int {
	*d = *d*6364136223846793005 + 1442695040888963407
	return int(uint64(*d) >> 33 % uint64(n))
}

func TestSpoiltTextsAreReadAsTheGrammarSays(t *testing.T) {
	d := dice(4)
	all := samples()
	for range 4000 {
		var tokens []api.Token
		for range d.roll(4) {
			tokens = append(tokens, bare(whole()[d.roll(len(whole()))])...)
		}
		for range d.roll(3) {
			i := d.roll(len(tokens) + 1)
			switch d.roll(3) {
			case 0:
				tokens = slices.Insert(tokens, i, all[d.roll(len(all))])
			case 1:
				tokens = slices.Delete(tokens, min(i, len(tokens)), min(i+1, len(tokens)))
			case 2:
				if i < len(tokens) {
					tokens[i] = all[d.roll(len(all))]
				}
			}
		}
		wantAsReference(t, placed(tokens))
	}
}
