package canon_test

import (
	"math"
	"slices"
	"strings"

	"gatehouse/api"
)

// dice are numbers that look like chance and are the same in every run.
type dice uint64

func (d *dice) below(n int) int {
	*d = *d*6364136223846793005 + 1442695040888963407
	return int(uint64(*d>>33) % uint64(n))
}

func word(s string) api.Word { return api.Word{Text: s} }

func words(texts ...string) []api.Word {
	var l []api.Word
	for _, s := range texts {
		l = append(l, word(s))
	}
	return l
}

// said is what a declaration says in all that the chapter's table names: what it does not name is zero, and so are the places.
func said(d api.Decl) api.Decl {
	rule := d.Kind == api.DeclAllow || d.Kind == api.DeclDeny
	out := api.Decl{Kind: d.Kind}
	for _, w := range d.Names {
		out.Names = append(out.Names, word(w.Text))
	}
	if d.Kind >= api.DeclMember {
		out.Head = word(d.Head.Text)
	}
	if d.Kind >= api.DeclAllow {
		out.On = word(d.On.Text)
	}
	if rule {
		out.All, out.Cond = d.All, d.Cond
	}
	if d.Kind == api.DeclSubject || rule && d.Cond != api.Always {
		out.Level = d.Level
	}
	return out
}

// same compares bit by bit, as a Level may be -0 or no number.
func same(a, b api.Decl) bool {
	return a.Kind == b.Kind && a.Line == b.Line && a.Col == b.Col && a.Head == b.Head && a.On == b.On &&
		slices.Equal(a.Names, b.Names) && a.All == b.All && a.Cond == b.Cond &&
		math.Float64bits(a.Level) == math.Float64bits(b.Level)
}

func keywords() []string {
	return strings.Fields("action subject trust role object group member inherit part within allow deny on above below except")
}

// goodNames are names of all sorts, bare ones and such as stand in quotes.
func goodNames() []string {
	return append(keywords(),
		"a", "b", "_", "door1", "night-watch", "Role", "the vault", " ", " a ", "a,b", "a;b", "1", "0.5", "*", ":", ",", ";", "#", "# a", "-a", "1a", "a.b", "//",
		"\"", "\\", "say \"no\\yes\"", "\\\"", "\"\"", "\\u{41}", "\\n", "é", "\u00a0", "\ufffd", "\U0001f6aa", "~",
		strings.Repeat("x", 32), strings.Repeat("\"", 32), strings.Repeat("\\", 32), strings.Repeat("é", 16), strings.Repeat(" ", 32))
}

// badNames are texts that are no names.
func badNames() []string {
	return []string{"", strings.Repeat("x", 33), strings.Repeat("é", 16) + "a", "a\tb", "a\nb", "\x00", "\x7f", "\u0085", "\xff", "a\xc3", "\xed\xa0\x80"}
}
