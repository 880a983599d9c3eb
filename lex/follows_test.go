package lex_test

import (
	"slices"
	"strconv"
	"strings"
	"testing"

	"gatehouse/api"
	"gatehouse/lex"
	"gatehouse/names"
)

func bareOf(tokens []api.Token) []api.Token {
	bare := slices.Clone(tokens)
	for i := range bare {
		bare[i].Line, bare[i].Col = 0, 0
	}
	return bare
}

// Writings of tokens, and the tokens that they are.
func writings() ([]string, []api.Token) {
	texts := []string{"allow", "x", "door1", strings.Repeat("w", 32), "0", "1", "0.25", "0.123456789", ",", ":", ";", "*", `"a b"`, `"\""`, `"#"`, "\"\u00e9\"", `"\u{e9}\\"`, `"role"`}
	var tokens []api.Token
	for i, text := range texts {
		kind, stands := api.TokenWord, text
		switch {
		case i >= 12:
			kind, stands = api.TokenQuoted, []string{"a b", `"`, "#", "\u00e9", "\u00e9\\", "role"}[i-12]
		case i >= 8:
			kind = api.TokenSign
		case i >= 4:
			kind = api.TokenNumber
		}
		tokens = append(tokens, api.Token{Kind: kind, Text: stands})
	}
	return texts, tokens
}

func TestGapsSayNothing(t *testing.T) {
	texts, tokens := writings()
	gaps := []string{" ", "\t", "\r", "\n", "\r\n", "  \n\t", "#\n", "# c\n", " # \"x\n", "#\xff\u00e9\n#\n", "\n\n\n"}
	d := dice(11)
	for range 3000 {
		var b strings.Builder
		var want []api.Token
		for range d.roll(9) {
			i := d.roll(len(texts))
			b.WriteString(texts[i] + gaps[d.roll(len(gaps))])
			want = append(want, tokens[i])
		}
		want = append(want, api.Token{Kind: api.TokenEnd})
		got, err := lex.Scan(b.String())
		if err != nil || !slices.Equal(bareOf(got), want) {
			t.Fatalf("Scan(%q) = %v, %v, want %v", b.String(), got, err, want)
		}
	}
}

func TestWhatStandsBehindAFaultSaysNothing(t *testing.T) {
	for _, faulty := range []string{"@", "a @", "12", "\"", "\"a", "\"a\\", "\"\\x", "\"\\u{110000}\"", "\"\"", strings.Repeat("w", 33), "\xff", "\u00e9", "a; # c\n b \"\x01\"", "0.", "\"\\u{4"} {
		_, err := lex.Scan(faulty)
		want := faultOf(err)
		if want == nil {
			t.Fatalf("Scan(%q): no fault", faulty)
		}
		for _, behind := range []string{"\n", "\n@", "\n\"", "\n\"\"", "\n12", "\nallow ann;", "\n" + strings.Repeat("\xff\n", 1000), "\n1}\"", "\n" + strings.Repeat("w", 33), " \n", " # c\n@"} {
			if strings.HasPrefix(behind, " ") && strings.Contains(faulty, "\\") {
				continue // what stands in the fault's own line may be the character behind its backslash
			}
			_, err := lex.Scan(faulty + behind)
			if f := faultOf(err); f == nil || *f != *want {
				t.Errorf("Scan(%.80q): %q, want %q", faulty+behind, err, want.Error())
			}
		}
		filled := faulty + "\n" + strings.Repeat("@", api.MaxText-len(faulty)-1)
		if _, err := lex.Scan(filled); faultOf(err) == nil || *faultOf(err) != *want {
			t.Errorf("%q, filled up: %q", faulty, err)
		}
	}
}

// escaped writes a name in quotes; of each character the dice say how.
func escaped(name string, d *dice) string {
	var b strings.Builder
	b.WriteByte('"')
	for _, r := range name {
		how := d.roll(5)
		switch {
		case how == 0:
			b.WriteString(`\u{` + strconv.FormatInt(int64(r), 16) + `}`)
		case how == 1:
			digits := "00000" + strings.ToUpper(strconv.FormatInt(int64(r), 16))
			b.WriteString(`\u{` + digits[len(digits)-6:] + `}`)
		case r == '"' || r == '\\':
			b.WriteString(`\` + string(r))
		default:
			b.WriteRune(r)
		}
	}
	b.WriteByte('"')
	return b.String()
}

func TestANameInQuotesIsReadAsIs(t *testing.T) {
	characters := []rune{'a', 'Z', '0', ' ', '"', '\\', '#', ',', ';', '{', '}', 'u', '~', 0xA0, 0xE9, 0x416, 0x20AC, 0xD7FF, 0xE000, 0xFFFD, 0xFFFF, 0x10000, 0x1F6AA, 0x10FFFF}
	d := dice(3)
	for range 20000 {
		var name string
		for range 1 + d.roll(12) {
			name += string(characters[d.roll(len(characters))])
		}
		if !names.Valid(name) {
			continue
		}
		text := escaped(name, &d)
		tokens, err := lex.Scan(text)
		want := []api.Token{{Kind: api.TokenQuoted, Text: name}, {Kind: api.TokenEnd}}
		if err != nil || !slices.Equal(bareOf(tokens), want) {
			t.Fatalf("Scan(%q) = %v, %v", text, tokens, err)
		}
	}
}

func TestAWrittenNameIsReadAsIs(t *testing.T) {
	for _, name := range []string{"ann", "_", "role", "on", "a b", "1door", "-a", "a.b", "\u00e9", "\U0001f6aa", "\ufffd", `say "no\yes"`, `\u{41}`, "#", " ", strings.Repeat(`"`, 32), strings.Repeat("z", 32)} {
		text, ok := names.Written(name)
		tokens, err := lex.Scan(text)
		if !ok || err != nil || len(tokens) != 2 || tokens[0].Text != name {
			t.Errorf("%q is written %q, and read as %v, %v", name, text, tokens, err)
		}
		if want := names.Bare(name); (tokens[0].Kind == api.TokenWord) != want {
			t.Errorf("%q is written %q, a token of the kind %d", name, text, tokens[0].Kind)
		}
	}
}
