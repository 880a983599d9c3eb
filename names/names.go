// Package names is layer 1: what a name is, how it is written, and numbers for names: shared/doc/01-names.md.
package names

import (
	"strings"
	"unicode/utf8"

	"gatehouse/api"
)

// Valid says whether a text may be a name.
func Valid(s string) bool {
	if len(s) < 1 || len(s) > api.MaxName {
		return false
	}
	for at, r := range s {
		if isControl(r) || r == utf8.RuneError && !startsWithRuneError(s[at:]) {
			return false
		}
	}
	return true
}

func isControl(r rune) bool {
	return r < 0x20 || r >= 0x7F && r <= 0x9F
}

// A range over a text gives U+FFFD for a byte that is no UTF-8, but also where that character itself stands, which a name may have: only the bytes tell the two apart.
func startsWithRuneError(s string) bool {
	return strings.HasPrefix(s, string(utf8.RuneError))
}

// Keyword says whether a word is one of the language's own.
func Keyword(s string) bool {
	switch s {
	case "action", "subject", "trust", "role", "object", "group",
		"member", "inherit", "part", "within",
		"allow", "deny", "on", "above", "below", "except":
		return true
	}
	return false
}

// Bare says whether a name stands in a text without quotes.
func Bare(s string) bool {
	if !Valid(s) || Keyword(s) || !mayBegin(s[0]) {
		return false
	}
	for i := 1; i < len(s); i++ {
		if !mayFollow(s[i]) {
			return false
		}
	}
	return true
}

func mayBegin(b byte) bool {
	return b >= 'a' && b <= 'z' || b >= 'A' && b <= 'Z' || b == '_'
}

func mayFollow(b byte) bool {
	return mayBegin(b) || b >= '0' && b <= '9' || b == '-'
}

// Written is a name as it stands in a text.
func Written(s string) (string, bool) {
	if !Valid(s) {
		return "", false
	}
	if Bare(s) {
		return strings.Clone(s), true // an answer shares no memory with an argument
	}
	return quoted(s), true
}

func quoted(s string) string {
	var b strings.Builder
	b.WriteByte('"')
	for i := 0; i < len(s); i++ {
		if s[i] == '"' || s[i] == '\\' {
			b.WriteByte('\\')
		}
		b.WriteByte(s[i])
	}
	b.WriteByte('"')
	return b.String()
}
