package lex_test

import (
	"regexp"
	"strconv"
	"strings"
	"unicode/utf8"

	"gatehouse/api"
)

// The same language once more, by patterns: what stands at the beginning of the rest of a text.
var (
	gapHere    = regexp.MustCompile(`^(?:[ \t\r\n]|#[^\n]*)*`)
	wordHere   = regexp.MustCompile(`^[A-Za-z_][A-Za-z_0-9-]*`)
	runHere    = regexp.MustCompile(`^[0-9][A-Za-z_0-9.-]*`)
	wholeNum   = regexp.MustCompile(`^(?:0|1|0\.[0-9]{1,9})$`)
	signHere   = regexp.MustCompile(`^[,:;*]`)
	escapeHere = regexp.MustCompile(`^\\(?:"|\\|u\{([0-9a-fA-F]{1,6})\})`)
)

// reference cuts a text of a length that may be into tokens, and tells the fault behind them, if there is one.
func reference(text string) ([]api.Token, *api.Fault) {
	var tokens []api.Token
	for at := 0; ; {
		at += len(gapHere.FindString(text[at:]))
		rest := text[at:]
		line, col := count(text[:at])
		if rest == "" {
			return append(tokens, api.Token{Kind: api.TokenEnd, Line: line, Col: col}), nil
		}
		if rest[0] == '"' {
			name, size, fault := referenceQuoted(text, at)
			if fault != nil {
				return tokens, fault
			}
			tokens = append(tokens, api.Token{Kind: api.TokenQuoted, Text: name, Line: line, Col: col})
			at += size
			continue
		}
		kind, found, code := referencePlain(rest)
		if code != api.OK {
			return tokens, &api.Fault{Code: code, Line: line, Col: col, Word: found}
		}
		tokens = append(tokens, api.Token{Kind: kind, Text: found, Line: line, Col: col})
		at += len(found)
	}
}

func referencePlain(rest string) (int8, string, api.Errno) {
	if w := wordHere.FindString(rest); w != "" {
		if len(w) > 32 {
			return 0, w, api.ErrName
		}
		return api.TokenWord, w, api.OK
	}
	if r := runHere.FindString(rest); r != "" {
		if !wholeNum.MatchString(r) {
			return 0, r, api.ErrNumber
		}
		return api.TokenNumber, r, api.OK
	}
	if s := signHere.FindString(rest); s != "" {
		return api.TokenSign, s, api.OK
	}
	return 0, firstCharacter(rest), api.ErrByte
}

func referenceQuoted(text string, at int) (string, int, *api.Fault) {
	line, col := count(text[:at])
	stands := ""
	for i := at + 1; ; {
		rest := text[i:]
		if rest == "" || rest[0] == '\n' {
			return "", 0, &api.Fault{Code: api.ErrQuote, Line: line, Col: col, Word: `"`}
		}
		if rest[0] == '"' {
			if !mayBeName(stands) {
				return "", 0, &api.Fault{Code: api.ErrName, Line: line, Col: col, Word: stands}
			}
			return stands, i + 1 - at, nil
		}
		if rest[0] != '\\' {
			stands += firstCharacter(rest)
			i += len(firstCharacter(rest))
			continue
		}
		found := escapeHere.FindStringSubmatch(rest)
		character, ok := referenceEscape(found)
		if !ok {
			l, c := count(text[:i])
			word := `\` + strings.TrimPrefix(firstCharacter(rest[1:]), "\n")
			return "", 0, &api.Fault{Code: api.ErrEscape, Line: l, Col: c, Word: word}
		}
		stands += character
		i += len(found[0])
	}
}

func referenceEscape(found []string) (string, bool) {
	if found == nil {
		return "", false
	}
	if found[1] == "" {
		return found[0][1:], true
	}
	n, err := strconv.ParseUint(found[1], 16, 64)
	if err != nil || n > 0x10FFFF || n >= 0xD800 && n <= 0xDFFF {
		return "", false
	}
	return string(utf8.AppendRune(nil, rune(n))), true
}

func firstCharacter(s string) string {
	_, size := utf8.DecodeRuneInString(s)
	return s[:size]
}

// count is the place behind a text that ends where a character ends.
func count(text string) (int, int) {
	return strings.Count(text, "\n") + 1, utf8.RuneCountInString(text[strings.LastIndex(text, "\n")+1:]) + 1
}

func mayBeName(s string) bool {
	control := func(r rune) bool { return r < 0x20 || r >= 0x7F && r <= 0x9F }
	return s != "" && len(s) <= 32 && utf8.ValidString(s) && !strings.ContainsFunc(s, control)
}
