package lex_test

import (
	"errors"
	"slices"
	"strconv"
	"strings"
	"testing"
	"unicode/utf8"
	"unsafe"

	"gatehouse/api"
	"gatehouse/lex"
)

func word(text string, line, col int) api.Token {
	return api.Token{Kind: api.TokenWord, Text: text, Line: line, Col: col}
}

func quoted(text string, line, col int) api.Token {
	return api.Token{Kind: api.TokenQuoted, Text: text, Line: line, Col: col}
}

func number(text string, line, col int) api.Token {
	return api.Token{Kind: api.TokenNumber, Text: text, Line: line, Col: col}
}

func sign(text string, line, col int) api.Token {
	return api.Token{Kind: api.TokenSign, Text: text, Line: line, Col: col}
}

func end(line, col int) api.Token {
	return api.Token{Kind: api.TokenEnd, Line: line, Col: col}
}

// wantTokens asks Scan and Each alike.
func wantTokens(t *testing.T, text string, want ...api.Token) {
	t.Helper()
	got, err := lex.Scan(text)
	if err != nil || !slices.Equal(got, want) {
		t.Errorf("Scan(%.80q) = %v, %v, want %v", text, got, err, want)
	}
	wantEach(t, text, want, nil)
}

// wantFault asks Scan and Each alike; ahead are the tokens that stand ahead of the fault.
func wantFault(t *testing.T, text string, want api.Fault, ahead ...api.Token) {
	t.Helper()
	got, err := lex.Scan(text)
	if f := faultOf(err); len(got) != 0 || f == nil || *f != want {
		t.Errorf("Scan(%.80q) = %v, %q, want %q", text, got, err, want.Error())
	}
	if !errors.Is(err, want.Code) {
		t.Errorf("Scan(%.80q): %q is not %d", text, err, want.Code)
	}
	wantEach(t, text, ahead, &want)
}

func wantEach(t *testing.T, text string, want []api.Token, fault *api.Fault) {
	t.Helper()
	var got []api.Token
	var last error
	for token, err := range lex.Each(text) {
		if last != nil {
			t.Errorf("Each(%.80q) goes on behind %q", text, last)
		}
		if last = err; err == nil {
			got = append(got, token)
		} else if token != (api.Token{}) {
			t.Errorf("Each(%.80q) tells %v beside %q", text, token, err)
		}
	}
	f := faultOf(last)
	if !slices.Equal(got, want) || (f == nil) != (fault == nil) || f != nil && *f != *fault || f == nil && last != nil {
		t.Errorf("Each(%.80q): %v, %q, want %v, %v", text, got, last, want, fault)
	}
}

func faultOf(err error) *api.Fault {
	var f *api.Fault
	errors.As(err, &f)
	return f
}

func at(code api.Errno, line, col int, word string) api.Fault {
	return api.Fault{Code: code, Line: line, Col: col, Word: word}
}

func TestExamples(t *testing.T) {
	wantTokens(t, "allow ann on door1 : open;", word("allow", 1, 1), word("ann", 1, 7), word("on", 1, 11), word("door1", 1, 14), sign(":", 1, 20), word("open", 1, 22), sign(";", 1, 26), end(1, 27))
	wantTokens(t, "", end(1, 1))
	wantTokens(t, "# a\n  x", word("x", 2, 3), end(2, 4))
	wantTokens(t, `"the night watch"`, quoted("the night watch", 1, 1), end(1, 18))
	wantTokens(t, `"a\"b\\\u{e9}"`, quoted("a\"b\\\u00e9", 1, 1), end(1, 15))
	wantTokens(t, "0.25 1", number("0.25", 1, 1), number("1", 1, 6), end(1, 7))
	for _, run := range []string{"12", "1.0", "0.1234567890", "0.5x", "0."} {
		wantFault(t, run, at(api.ErrNumber, 1, 1, run))
	}
	wantFault(t, "ann@door", at(api.ErrByte, 1, 4, "@"), word("ann", 1, 1))
	wantFault(t, `"ann`, at(api.ErrQuote, 1, 1, `"`))
	wantFault(t, "\"a\nb\"", at(api.ErrQuote, 1, 1, `"`))
	wantFault(t, `"a\n"`, at(api.ErrEscape, 1, 3, `\n`))
	wantFault(t, `"a\u{d800}"`, at(api.ErrEscape, 1, 3, `\u`))
	wantFault(t, `"a\u{}"`, at(api.ErrEscape, 1, 3, `\u`))
	wantFault(t, `"a\`, at(api.ErrEscape, 1, 3, `\`))
	wantFault(t, `""`, at(api.ErrName, 1, 1, ""))
	wantFault(t, `"\u{7}"`, at(api.ErrName, 1, 1, "\x07"))
	wantFault(t, strings.Repeat("k", 33), at(api.ErrName, 1, 1, strings.Repeat("k", 33)))
	wantFault(t, "\u00e9\"", at(api.ErrByte, 1, 1, "\u00e9"))
	wantFault(t, "\xc3,", at(api.ErrByte, 1, 1, "\xc3"))
}

func TestTooLong(t *testing.T) {
	for _, piece := range []string{" ", "\n", "a ", "@", "\"", "#", "\xff", "\u00e9", strings.Repeat("a", 33), "0.", "\"a\" "} {
		long := strings.Repeat(piece, api.MaxText/len(piece)+1)[:api.MaxText+1]
		wantFault(t, long, api.Fault{Code: api.ErrLong})
		if _, err := lex.Scan(long[:api.MaxText]); errors.Is(err, api.ErrLong) {
			t.Errorf("%q: %d bytes are too long", piece, api.MaxText)
		}
	}
	wantFault(t, strings.Repeat("a", 1<<20), api.Fault{Code: api.ErrLong})
	wantTokens(t, strings.Repeat(" ", 65536), end(1, 65537))
	wantTokens(t, strings.Repeat("\n", 65535)+";", sign(";", 65536, 1), end(65536, 2))
	wantTokens(t, "#"+strings.Repeat("\u00e9", 32767)+"\n", end(2, 1))
	wantFault(t, strings.Repeat(" ", 65535)+"@", at(api.ErrByte, 1, 65536, "@"))
	wantFault(t, "\""+strings.Repeat("a", 65535), at(api.ErrQuote, 1, 1, "\""))
	wantFault(t, "\""+strings.Repeat("a", 65534)+"\"", at(api.ErrName, 1, 1, strings.Repeat("a", 65534)))
	wantFault(t, strings.Repeat("a", 65536), at(api.ErrName, 1, 1, strings.Repeat("a", 65536)))
	wantFault(t, strings.Repeat("0", 65536), at(api.ErrNumber, 1, 1, strings.Repeat("0", 65536)))
}

func TestBlanksAndComments(t *testing.T) {
	wantTokens(t, " \t\r\n \t", end(2, 3))
	wantTokens(t, "\n", end(2, 1))
	wantTokens(t, "\r", end(1, 2))
	wantTokens(t, "\r\n\r\n", end(3, 1))
	wantTokens(t, "a\tb\r\nc", word("a", 1, 1), word("b", 1, 3), word("c", 2, 1), end(2, 2))
	wantTokens(t, "#", end(1, 2))
	wantTokens(t, "# a \u00e9 \xff \"", end(1, 10))
	wantTokens(t, "a#b\nc", word("a", 1, 1), word("c", 2, 1), end(2, 2))
	wantTokens(t, "0.5#x", number("0.5", 1, 1), end(1, 6))
	wantTokens(t, "#\"a\n\"#b\"", quoted("#b", 2, 1), end(2, 5))
	wantTokens(t, "# a\r# b\nx", word("x", 2, 1), end(2, 2))
	wantTokens(t, "# a # b\n# c\n\n  # d\n;# e", sign(";", 5, 1), end(5, 5))
	wantTokens(t, "#\\\nx", word("x", 2, 1), end(2, 2))
	for _, c := range []string{"\v", "\f", "\x00", "\u0085", "\u00a0", "\u2028", "\u3000", "\ufeff"} {
		wantFault(t, " "+c, at(api.ErrByte, 1, 2, c))
	}
}

func TestWords(t *testing.T) {
	for _, w := range []string{"a", "z", "A", "Z", "_", "_-", "a-b_c9", "role", "x0", "a--", strings.Repeat("w", 32), "_" + strings.Repeat("9", 31), "a" + strings.Repeat("-", 31)} {
		wantTokens(t, w, word(w, 1, 1), end(1, len(w)+1))
		wantTokens(t, "\n "+w+",", word(w, 2, 2), sign(",", 2, 2+len(w)), end(2, 3+len(w)))
	}
	for _, w := range []string{strings.Repeat("w", 33), "_" + strings.Repeat("-", 32), strings.Repeat("a0", 17), strings.Repeat("Z", 5000)} {
		wantFault(t, w, at(api.ErrName, 1, 1, w))
		wantFault(t, "a;\n  "+w+" @", at(api.ErrName, 2, 3, w), word("a", 1, 1), sign(";", 1, 2))
		wantFault(t, w+".", at(api.ErrName, 1, 1, w))
	}
	wantFault(t, "a.b", at(api.ErrByte, 1, 2, "."), word("a", 1, 1))
	wantFault(t, "a\u00e9", at(api.ErrByte, 1, 2, "\u00e9"), word("a", 1, 1))
	wantFault(t, "-a", at(api.ErrByte, 1, 1, "-"))
	wantFault(t, "a \\", at(api.ErrByte, 1, 3, "\\"), word("a", 1, 1))
	wantTokens(t, "a\"b\"c", word("a", 1, 1), quoted("b", 1, 2), word("c", 1, 5), end(1, 6))
}

func TestNumbers(t *testing.T) {
	for _, n := range []string{"0", "1", "0.0", "0.5", "0.00", "0.123456789", "0.000000000", "0.999999999"} {
		wantTokens(t, n, number(n, 1, 1), end(1, len(n)+1))
		wantTokens(t, "x "+n+";", word("x", 1, 1), number(n, 1, 3), sign(";", 1, 3+len(n)), end(1, 4+len(n)))
	}
	for _, n := range []string{"00", "01", "10", "11", "2", "9", "0.", "1.", "1.0", "1.5", "0..5", "0.5.", "0.5.5", "0.1234567890", "0.0000000000", "0-5", "0x1", "0_1", "1a", "0e5", "0.5e1", "0.5-", "0.a", "0.-1", "0._1", "2.5", "00.5", "1-", "1door", "0.12345678a", strings.Repeat("1", 100)} {
		wantFault(t, n, at(api.ErrNumber, 1, 1, n))
		wantFault(t, "x "+n+" \"", at(api.ErrNumber, 1, 3, n), word("x", 1, 1))
	}
	wantFault(t, "0+", at(api.ErrByte, 1, 2, "+"), number("0", 1, 1))
	wantFault(t, "0\u0660", at(api.ErrByte, 1, 2, "\u0660"), number("0", 1, 1))
	wantFault(t, ".5", at(api.ErrByte, 1, 1, "."))
	wantFault(t, "-0", at(api.ErrByte, 1, 1, "-"))
	wantTokens(t, "0,1", number("0", 1, 1), sign(",", 1, 2), number("1", 1, 3), end(1, 4))
}

func TestSigns(t *testing.T) {
	wantTokens(t, ",:;*", sign(",", 1, 1), sign(":", 1, 2), sign(";", 1, 3), sign("*", 1, 4), end(1, 5))
}

func TestEachByte(t *testing.T) {
	for b := range 256 {
		s := string([]byte{byte(b)})
		tokens, fault := reference(s)
		if fault == nil {
			wantTokens(t, s, tokens...)
			continue
		}
		wantFault(t, s, *fault)
		wantFault(t, "a\n "+s+"\" ,", func() api.Fault { _, f := reference("a\n " + s + "\" ,"); return *f }(), word("a", 1, 1))
	}
}

// Of all characters those that begin a token or a gap are ASCII; each other one is a fault as it stands.
func TestEachCharacter(t *testing.T) {
	for r := rune(0x80); r <= utf8.MaxRune; r++ {
		if !utf8.ValidRune(r) || r > 0x3000 && r%61 != 0 && r%0x10000 < 0xFFF0 {
			continue
		}
		wantFault(t, ";"+string(r), at(api.ErrByte, 1, 2, string(r)), sign(";", 1, 1))
		if r > 0x9F {
			wantTokens(t, "\"x"+string(r)+"\";", quoted("x"+string(r), 1, 1), sign(";", 1, 5), end(1, 6))
		} else {
			wantFault(t, "\"x"+string(r)+"\";", at(api.ErrName, 1, 1, "x"+string(r)))
		}
	}
	wantFault(t, "\ufffd", at(api.ErrByte, 1, 1, "\ufffd"))
	wantTokens(t, "\"\ufffd\"", quoted("\ufffd", 1, 1), end(1, 4))
}

func TestNoUTF8(t *testing.T) {
	wantFault(t, "\xe2\x82", at(api.ErrByte, 1, 1, "\xe2"))
	wantFault(t, "\xe2\x82\xac", at(api.ErrByte, 1, 1, "\u20ac"))
	wantFault(t, "\xed\xa0\x80", at(api.ErrByte, 1, 1, "\xed"))
	wantFault(t, "\xc0\xaf", at(api.ErrByte, 1, 1, "\xc0"))
	wantFault(t, "\"\xff\"", at(api.ErrName, 1, 1, "\xff"))
	wantFault(t, "\"a\xc3\\\"\xa9\"", at(api.ErrName, 1, 1, "a\xc3\"\xa9"))
	wantFault(t, "\"\xe2\x82", at(api.ErrQuote, 1, 1, "\""))
	wantFault(t, "\"\xe2\x82\xac\xe2\x82\"", at(api.ErrName, 1, 1, "\u20ac\xe2\x82"))
	wantFault(t, "\"\xff\\\xfe\"", at(api.ErrEscape, 1, 3, "\\\xfe"))
	wantFault(t, "\"\\\xc3\xa9\"", at(api.ErrEscape, 1, 2, "\\\u00e9"))
	wantFault(t, "# \xe2\x82\xff\n@", at(api.ErrByte, 2, 1, "@"))
	wantFault(t, "# \xe2\x82\xff\r\"\n\"\xe2\x82\\x", at(api.ErrEscape, 2, 4, "\\x"))
}

func TestQuotedNames(t *testing.T) {
	for _, n := range []string{"a", " ", "role", "0.5", "#", ",", "a: b;", "*", "  x  ", "\u00e9\u20ac\U0001f6aa", strings.Repeat("q", 32), strings.Repeat("\u00e9", 16)} {
		wantTokens(t, "\""+n+"\"", quoted(n, 1, 1), end(1, utf8.RuneCountInString(n)+3))
		wantTokens(t, "\n\""+n+"\"x", quoted(n, 2, 1), word("x", 2, utf8.RuneCountInString(n)+3), end(2, utf8.RuneCountInString(n)+4))
	}
	for _, n := range []string{"", "\t", "a\r", "\x00", "\x7f", "\u0085", "\u009f", strings.Repeat("q", 33), strings.Repeat("\u00e9", 17), strings.Repeat("a", 31) + "\u00e9"} {
		wantFault(t, ",\""+n+"\"", at(api.ErrName, 1, 2, n), sign(",", 1, 1))
		wantFault(t, "\""+n+"\"@", at(api.ErrName, 1, 1, n))
		wantFault(t, "\""+n, at(api.ErrQuote, 1, 1, "\""))
	}
	wantTokens(t, `"a""b"`, quoted("a", 1, 1), quoted("b", 1, 4), end(1, 7))
	wantTokens(t, `"\""`, quoted(`"`, 1, 1), end(1, 5))
	wantTokens(t, `"\\"`, quoted(`\`, 1, 1), end(1, 5))
	wantTokens(t, `"\\\""`, quoted(`\"`, 1, 1), end(1, 7))
	wantFault(t, `"\\""`, at(api.ErrQuote, 1, 5, `"`), quoted(`\`, 1, 1))
	wantTokens(t, `"`+strings.Repeat(`\"`, 32)+`"`, quoted(strings.Repeat(`"`, 32), 1, 1), end(1, 67))
	wantFault(t, `"`+strings.Repeat(`\\`, 33)+`"`, at(api.ErrName, 1, 1, strings.Repeat(`\`, 33)))
}

func TestQuotedNamesThatDoNotEnd(t *testing.T) {
	for _, rest := range []string{"", "\n", "\n\"", "\nb\"", "\n\\"} {
		for _, begun := range []string{`"`, `"a`, `"\"`, `"a\u{41}`, `"\\`, `"#`, "\"\t", "\"\xff", `"` + strings.Repeat("x", 40)} {
			wantFault(t, ";\n "+begun+rest, at(api.ErrQuote, 2, 2, `"`), sign(";", 1, 1))
		}
		for _, begun := range []string{`"`, `"a`, `"\"`, `"\\`, "\"\t", "\"\xff", `"` + strings.Repeat("x", 40)} {
			col := utf8.RuneCountInString(begun) + 2
			wantFault(t, ";\n "+begun+`\`+rest, at(api.ErrEscape, 2, col, `\`), sign(";", 1, 1))
			for _, more := range []string{"u", "u{", "u{1", "u{10ffff", "u{}"} {
				wantFault(t, ";\n "+begun+`\`+more+rest, at(api.ErrEscape, 2, col, `\u`), sign(";", 1, 1))
			}
		}
	}
	wantFault(t, "\"a\\\r\n\"", at(api.ErrEscape, 1, 3, "\\\r"))
	wantFault(t, "\"a\r\n\"", at(api.ErrQuote, 1, 1, "\""))
}

func TestEscapes(t *testing.T) {
	for digits, stands := range map[string]string{
		"41": "A", "041": "A", "0041": "A", "00041": "A", "000041": "A", "20": " ", "22": "\"", "5c": "\\", "5C": "\\", "23": "#",
		"e9": "\u00e9", "E9": "\u00e9", "20aC": "\u20ac", "1F6aa": "\U0001f6aa", "a0": "\u00a0",
		"d7ff": "\ud7ff", "D7FF": "\ud7ff", "00D7ff": "\ud7ff", "e000": "\ue000", "E000": "\ue000", "fffd": "\ufffd", "ffff": "\uffff",
		"10000": "\U00010000", "10FFFF": "\U0010ffff", "10ffff": "\U0010ffff", "0ABCDE": "\U000abcde", "fabcd": "\U000fabcd",
	} {
		text := `"a\u{` + digits + `}b"`
		wantTokens(t, text, quoted("a"+stands+"b", 1, 1), end(1, len(text)+1))
	}
	for digits, stands := range map[string]string{"0": "\x00", "000000": "\x00", "9": "\t", "a": "\n", "A": "\n", "1f": "\x1f", "7f": "\x7f", "80": "\u0080", "9F": "\u009f"} {
		wantFault(t, `"a\u{`+digits+`}b"`, at(api.ErrName, 1, 1, "a"+stands+"b"))
	}
	for _, escape := range []string{
		`u`, `u{`, `u}`, `u{}`, `u{ }`, `u{41`, `u{41 }`, `u{ 41}`, `u{+41}`, `u{-1}`, `u{4_1}`, `u{0x41}`, `u{g}`, `u{4g}`, `u{G}`, `u{.}`, `u41`, `u0041`, `u(41)`, `u[41]`, `u{{41}}`,
		`u{0000041}`, `u{0000000}`, `u{1000000}`, `u{10ffff0}`, `u{00000000000000000041}`, `u{ffffffffffffffffffffffff}`,
		`u{110000}`, `u{ffffff}`, `u{d800}`, `u{D800}`, `u{dabc}`, `u{dfff}`, `u{DFFF}`, `u{00dfff}`, "u{\uff11}", "u{4\xff}", `u{41"`, `u{"}`, "u{4\n1}",
	} {
		wantFault(t, `"a\`+escape+`"`, at(api.ErrEscape, 1, 3, `\u`))
		wantFault(t, `"\"\`+escape, at(api.ErrEscape, 1, 4, `\u`))
	}
	for _, c := range []string{"n", "t", "a", "U", "x41", "0", " ", "'", "#", "{41}", "/", "\t", "\x00", "\u00e9", "\U0001f6aa", "\xff", "\xe2"} {
		first := firstCharacter(c)
		wantFault(t, `"\`+c+`"`, at(api.ErrEscape, 1, 2, `\`+first))
		wantFault(t, "\"\u20ac\\"+c, at(api.ErrEscape, 1, 3, `\`+first))
	}
}

func TestEscapeOfEachNumber(t *testing.T) {
	for n := int64(0); n <= 0x110100; n++ {
		near := n < 0x200 || n >= 0xD7F0 && n <= 0xE010 || n >= 0xFFF0 && n <= 0x10010 || n >= 0x10FFF0
		if !near && n%499 != 0 {
			continue
		}
		for _, digits := range []string{strconv.FormatInt(n, 16), strings.ToUpper(strconv.FormatInt(n, 16)), ("000000" + strconv.FormatInt(n, 16))[len(strconv.FormatInt(n, 16)):]} {
			text := `"` + `\u{` + digits + `}"`
			tokens, fault := reference(text)
			if fault != nil {
				wantFault(t, text, *fault, tokens...)
			} else {
				wantTokens(t, text, tokens...)
			}
		}
	}
}

func TestTheFirstFaultCounts(t *testing.T) {
	wantFault(t, "a @ 12 \"", at(api.ErrByte, 1, 3, "@"), word("a", 1, 1))
	wantFault(t, "12 @", at(api.ErrNumber, 1, 1, "12"))
	wantFault(t, "\"\\x\" @", at(api.ErrEscape, 1, 2, "\\x"))
	wantFault(t, "\"\" @", at(api.ErrName, 1, 1, ""))
	wantFault(t, "\"\\x\n", at(api.ErrEscape, 1, 2, "\\x"))
	wantFault(t, "\"\x00\\x\"", at(api.ErrEscape, 1, 3, "\\x"))
	wantFault(t, "\"\x00\n\\x\"", at(api.ErrQuote, 1, 1, "\""))
	wantFault(t, "\"\\x\\y\"", at(api.ErrEscape, 1, 2, "\\x"))
}

func against(t *testing.T, text string) {
	t.Helper()
	tokens, fault := reference(text)
	got, err := lex.Scan(text)
	if fault == nil {
		if err != nil || !slices.Equal(got, tokens) {
			t.Fatalf("Scan(%q) = %v, %v, want %v", text, got, err, tokens)
		}
	} else if f := faultOf(err); len(got) != 0 || f == nil || *f != *fault {
		t.Fatalf("Scan(%q) = %v, %q, want %q", text, got, err, fault.Error())
	}
	wantEach(t, text, tokens, fault)
}

// All texts of up to five characters over those that a token treats in a way of its own.
func TestShortTextsAgainstPatterns(t *testing.T) {
	pieces := []string{"a", "0", ".", "\"", "\\", "u{", "}", "#", "\n", ";", "\u00e9", "\xc3"}
	layer := []string{""}
	for range 5 {
		var next []string
		for _, s := range layer {
			for _, p := range pieces {
				next = append(next, s+p)
			}
		}
		layer = next
		for _, s := range layer {
			against(t, s)
		}
	}
}

type dice int

func (d *dice) roll(n int) int {
	*d = *d * 48271 % 2147483647
	return int(*d) % n
}

func TestMixedTextsAgainstPatterns(t *testing.T) {
	pieces := []string{
		"a", "b-1", "_", "allow", "role", "0", "1", "0.", "0.5", "12", ".", "-", ",", ":", ";", "*", " ", " ", "  ", "\t", "\r", "\n", "\n", "# c", "#\n",
		"\"", "\"", "\"", "\"x y\"", "\"", "\\", "\\\"", "\\\\", "\\u{41}", "\\u{e9}", "\\u{7}", "\\u{d800}", "\\u", "{", "}", "\\n",
		"\u00e9", "\u20ac", "\U0001f6aa", "\xc3", "\xa9", "\xff", "\x00", "@", strings.Repeat("w", 31), "w", strings.Repeat("\u00e9", 15),
	}
	d := dice(7)
	for range 60000 {
		var b strings.Builder
		for range d.roll(12) {
			b.WriteString(pieces[d.roll(len(pieces))])
		}
		against(t, b.String())
	}
}

func TestAnswersAreNewMemory(t *testing.T) {
	inside := func(text, piece string) bool {
		begin, at := uintptr(unsafe.Pointer(unsafe.StringData(text))), uintptr(unsafe.Pointer(unsafe.StringData(piece)))
		return piece != "" && at >= begin && at < begin+uintptr(len(text))
	}
	text := strings.Clone(`allow "a b" : 0.5;`)
	tokens, _ := lex.Scan(text)
	for _, token := range tokens {
		if inside(text, token.Text) {
			t.Errorf("the token %q shares the text's memory", token.Text)
		}
	}
	for _, wrong := range []string{"a " + strings.Repeat("b", 33), "a 12345", "a @", "a \"\\x", "\"\x01\x02\x03\""} {
		text := strings.Clone(wrong)
		_, err := lex.Scan(text)
		if f := faultOf(err); f == nil || inside(text, f.Word) {
			t.Errorf("the word of %q shares the text's memory", err)
		}
	}
}
