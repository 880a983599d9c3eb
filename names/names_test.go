package names_test

import (
	"strings"
	"testing"
	"unicode/utf8"
	"unsafe"

	"gatehouse/names"
)

func keywords() []string {
	return strings.Fields("action subject trust role object group member inherit part within allow deny on above below except")
}

// isName says in another way than the package what a name is.
func isName(s string) bool {
	forbidden := func(r rune) bool { return r < 0x20 || 0x7F <= r && r <= 0x9F }
	return len(s) >= 1 && len(s) <= 32 && utf8.ValidString(s) && !strings.ContainsFunc(s, forbidden)
}

// noNames are texts that are no names, each for another reason.
func noNames() []string {
	return []string{
		"",
		strings.Repeat("a", 33),
		strings.Repeat(" ", 33),
		strings.Repeat("a", 1<<20),
		"\x00", "a\tb", "a\n", "\x1f", "\x7f", "a\x7fb", "\u0080", "a\u0085", "\u009f",
		"\x80", "\xbf", "\xff", "\xfe", "a\xff", "\xffa", "a\xffb",
		"\xc3", "\xe2\x82", "\xf0\x9f\x9a", "\xc3a", "\xe2\x82a", "\xf0\x9f\x9aa",
		"\xc0\x80", "\xc0\xaf", "\xc1\xbf", "\xe0\x80\x80", "\xe0\x9f\xbf", "\xf0\x80\x80\x80", "\xf0\x8f\xbf\xbf",
		"\xed\xa0\x80", "\xed\xaf\xbf", "\xed\xb0\x80", "\xed\xbf\xbf", "\xed\xa0\xbd\xed\xbb\xaa",
		"\xf4\x90\x80\x80", "\xf5\x80\x80\x80", "\xf8\x88\x80\x80\x80",
		"\xef", "\xef\xbf", "\xef\xbfa", "\xefa", "\xef\xbf\xbd\xff", "\xff\xef\xbf\xbd", "\xef\xef\xbf\xbd",
		strings.Repeat("a", 31) + "\xff",
		strings.Repeat("a", 31) + "\xc3",
		strings.Repeat("a", 31) + "\x7f",
		strings.Repeat("a", 30) + "\u0085",
		strings.Repeat("a", 31) + "\u00e9",
		strings.Repeat("a", 30) + "\u20ac",
		strings.Repeat("a", 29) + "\U0001f6aa",
		strings.Repeat("\u00e9", 16) + "a",
		strings.Repeat("\u00e9", 17),
		strings.Repeat("\u20ac", 11),
		strings.Repeat("\U0001f6aa", 8) + "a",
		strings.Repeat("\U0001f6aa", 9),
	}
}

// quotedNames are names that are not bare.
func quotedNames() []string {
	return append(keywords(),
		" ", "  ", " a", "a ", "the night watch",
		"1door", "-a", "-", "0", "a.b", "a:b", "a,b", "a;b", "#", "*", "a*", "a\"", "\"", "\\", "\"\\", "say \"no\\yes\"",
		"\u00a0", "\u00e9", "a\u00e9", "\u00e9a", "\u0416", "\u20ac", "\ufffd", "a\ufffdb", "\ufffd\ufffd", "\ufeff", "\uffff", "\ud7ff", "\ue000",
		"\U00010000", "\U0001f6aa", "\U0010ffff",
		"role ", " role", "role.", "[", "`", "@", "{", "/", "~",
		strings.Repeat(" ", 32), strings.Repeat("1", 32), strings.Repeat("\"", 32), strings.Repeat("\\", 32),
		strings.Repeat("a", 30)+"\u00e9",
		strings.Repeat("a", 29)+"\u20ac",
		strings.Repeat("a", 28)+"\U0001f6aa",
		strings.Repeat("\u00e9", 16),
		strings.Repeat("\u20ac", 10)+"aa",
		strings.Repeat("\U0001f6aa", 8),
	)
}

func bareNames() []string {
	return []string{
		"a", "z", "A", "Z", "_", "__", "ann", "door1", "night-watch", "a-", "a_", "a0", "a9", "_-", "_1", "aZ",
		"Role", "ROLE", "roles", "rol", "role1", "role-", "role_", "_role", "On", "o", "guard", "above-", "star",
		strings.Repeat("a", 32), "_" + strings.Repeat("-", 31), "a" + strings.Repeat("0", 31),
	}
}

func TestValid(t *testing.T) {
	for _, s := range noNames() {
		if names.Valid(s) {
			t.Errorf("Valid(%.80q) is true", s)
		}
	}
	for _, s := range append(quotedNames(), bareNames()...) {
		if !names.Valid(s) {
			t.Errorf("Valid(%q) is false", s)
		}
	}
}

func TestValidOfEachCharacter(t *testing.T) {
	for r := rune(0); r <= 0x10FFFF; r++ {
		if r >= 0xD800 && r <= 0xDFFF {
			three := string([]byte{0xED, byte(0x80 | r>>6&0x3F), byte(0x80 | r&0x3F)})
			if names.Valid(three) || names.Valid("a"+three) {
				t.Fatalf("Valid(%x) is true", three)
			}
			continue
		}
		want := r >= 0x20 && r < 0x7F || r > 0x9F
		s := string(r)
		if names.Valid(s) != want || names.Valid("a"+s) != want || names.Valid(s+"a") != want {
			t.Fatalf("Valid with the character %x is not %v", r, want)
		}
	}
}

// The second and third bytes are those at which some form of a character begins or ends to be one.
func TestValidOfBytes(t *testing.T) {
	edges := []byte{0, 0x1F, 0x20, 0x7E, 0x7F, 0x80, 0x8F, 0x90, 0x9F, 0xA0, 0xBD, 0xBF, 0xC0, 0xC2, 0xDF, 0xE0, 0xED, 0xEF, 0xF0, 0xF4, 0xFF}
	for a := range 256 {
		check := func(b ...byte) {
			s := string(append([]byte{byte(a)}, b...))
			if names.Valid(s) != isName(s) {
				t.Fatalf("Valid(%q) is not %v", s, isName(s))
			}
		}
		for b := range 256 {
			check(byte(b))
		}
		for _, b := range edges {
			for _, c := range edges {
				check(b, c)
				for _, d := range edges {
					check(b, c, d)
				}
			}
		}
	}
}

func TestKeyword(t *testing.T) {
	if len(keywords()) != 16 {
		t.Fatal("sixteen keywords are to be tested")
	}
	for _, s := range keywords() {
		if !names.Keyword(s) {
			t.Errorf("Keyword(%q) is false", s)
		}
		for _, near := range []string{s + "s", s + " ", " " + s, s[1:], s[:len(s)-1], strings.ToUpper(s), strings.ToUpper(s[:1]) + s[1:], "\"" + s + "\"", s + "\x00"} {
			if names.Keyword(near) {
				t.Errorf("Keyword(%q) is true", near)
			}
		}
	}
	for _, s := range append(noNames(), bareNames()...) {
		if names.Keyword(s) {
			t.Errorf("Keyword(%.80q) is true", s)
		}
	}
}

func TestBare(t *testing.T) {
	for _, s := range bareNames() {
		if !names.Bare(s) {
			t.Errorf("Bare(%q) is false", s)
		}
	}
	for _, s := range append(quotedNames(), noNames()...) {
		if names.Bare(s) {
			t.Errorf("Bare(%.80q) is true", s)
		}
	}
}

func TestBareOfEachByte(t *testing.T) {
	const letters = "abcdefghijklmnopqrstuvwxyzABCDEFGHIJKLMNOPQRSTUVWXYZ_"
	for b := range 256 {
		s := string([]byte{byte(b)})
		if want := strings.Contains(letters, s); names.Bare(s) != want || names.Bare(s+"x1") != want {
			t.Errorf("Bare of what begins with %q is not %v", s, want)
		}
		if want := strings.Contains(letters+"0123456789-", s); names.Bare("x"+s) != want || names.Bare("x"+s+"y") != want {
			t.Errorf("Bare of what goes on with %q is not %v", s, want)
		}
	}
}

func TestWritten(t *testing.T) {
	for _, s := range bareNames() {
		if got, ok := names.Written(s); got != s || !ok {
			t.Errorf("Written(%q) = %q, %v", s, got, ok)
		}
	}
	inner := strings.NewReplacer("\"", "\\\"", "\\", "\\\\")
	for _, s := range quotedNames() {
		if got, ok := names.Written(s); got != "\""+inner.Replace(s)+"\"" || !ok {
			t.Errorf("Written(%q) = %q, %v", s, got, ok)
		}
	}
	for _, s := range noNames() {
		if got, ok := names.Written(s); got != "" || ok {
			t.Errorf("Written(%.80q) = %q, %v", s, got, ok)
		}
	}
}

func TestWrittenExamples(t *testing.T) {
	for _, c := range []struct{ name, want string }{
		{`door1`, `door1`},
		{`role`, `"role"`},
		{`a b`, `"a b"`},
		{`say "no\yes"`, `"say \"no\\yes\""`},
		{`\"`, `"\\\""`},
		{`"`, `"\""`},
	} {
		if got, ok := names.Written(c.name); got != c.want || !ok {
			t.Errorf("Written(%q) = %q, %v", c.name, got, ok)
		}
	}
}

func TestWrittenIsAtMostTwiceAsLong(t *testing.T) {
	for _, s := range append(quotedNames(), bareNames()...) {
		if got, _ := names.Written(s); len(got) > 2*32+2 {
			t.Errorf("Written(%q) has %d bytes", s, len(got))
		}
	}
	if got, _ := names.Written(strings.Repeat("\"", 32)); len(got) != 66 {
		t.Errorf("32 quotes are written in %d bytes", len(got))
	}
}

// All names of up to five characters over those that a writing treats in a way of their own.
func TestNoTwoNamesAreWrittenAlike(t *testing.T) {
	seen := map[string]string{}
	layer := []string{""}
	for range 5 {
		var next []string
		for _, s := range layer {
			for _, c := range []string{"a", "\"", "\\", " ", "1", "-", "\u00e9"} {
				next = append(next, s+c)
			}
		}
		layer = next
		for _, s := range layer {
			w, ok := names.Written(s)
			if other, there := seen[w]; !ok || there {
				t.Fatalf("%q and %q are both written %q (%v)", s, other, w, ok)
			}
			seen[w] = s
		}
	}
}

func TestWrittenIsNewMemory(t *testing.T) {
	s := strings.Repeat("a", 20)
	if got, _ := names.Written(s); unsafe.StringData(got) == unsafe.StringData(s) {
		t.Error("the writing of a bare name shares its memory")
	}
}
