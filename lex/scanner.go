package lex

import (
	"strconv"
	"strings"
	"unicode/utf8"

	"gatehouse/api"
	"gatehouse/names"
)

const (
	lineEnd = '\n'
	textEnd = rune(-1) // no character has this number
)

// scanner stands in front of the character that is next, and knows its place.
type scanner struct {
	characters
	next int
	here place
}

func (s *scanner) peek() rune {
	if s.next == len(s.runes) {
		return textEnd
	}
	return s.runes[s.next]
}

// pass goes behind the next character; there must be one.
func (s *scanner) pass() {
	s.here = s.here.behind(s.runes[s.next])
	s.next++
}

func (s *scanner) passWhile(belongs func(rune) bool) {
	for belongs(s.peek()) {
		s.pass()
	}
}

func (s *scanner) take() string {
	from := s.next
	s.pass()
	return s.bytes(from, s.next)
}

func (s *scanner) takeWhile(belongs func(rune) bool) string {
	from := s.next
	s.passWhile(belongs)
	return s.bytes(from, s.next)
}

// token is the next one; behind a fault, or behind the end, the scanner is of no more use.
func (s *scanner) token() (api.Token, *api.Fault) {
	s.passGap()
	begin := s.here
	switch r := s.peek(); {
	case r == textEnd:
		return begin.token(api.TokenEnd, ""), nil
	case isLetter(r):
		return s.word()
	case isDigit(r):
		return s.number()
	case isSign(r):
		return begin.token(api.TokenSign, s.take()), nil
	case r == '"':
		return s.quoted()
	}
	return api.Token{}, begin.fault(api.ErrByte, s.take())
}

// passGap passes over blanks and comments.
func (s *scanner) passGap() {
	s.passWhile(isBlank)
	for s.peek() == '#' {
		s.passWhile(inLine)
		s.passWhile(isBlank)
	}
}

func (s *scanner) word() (api.Token, *api.Fault) {
	begin := s.here
	text := s.takeWhile(inWord)
	if len(text) > api.MaxName {
		return api.Token{}, begin.fault(api.ErrName, text)
	}
	return begin.token(api.TokenWord, text), nil
}

func (s *scanner) number() (api.Token, *api.Fault) {
	begin := s.here
	text := s.takeWhile(inRun)
	if !isNumber(text) {
		return api.Token{}, begin.fault(api.ErrNumber, text)
	}
	return begin.token(api.TokenNumber, text), nil
}

func isNumber(run string) bool {
	if run == "0" || run == "1" {
		return true
	}
	digits, ok := strings.CutPrefix(run, "0.")
	if !ok || len(digits) < 1 || len(digits) > 9 {
		return false
	}
	for _, r := range digits {
		if !isDigit(r) {
			return false
		}
	}
	return true
}

func (s *scanner) quoted() (api.Token, *api.Fault) {
	begin := s.here
	s.pass() // the quote that begins it
	var name strings.Builder
	for {
		switch s.peek() {
		case lineEnd, textEnd:
			return api.Token{}, begin.fault(api.ErrQuote, "\"")
		case '"':
			s.pass()
			return quotedName(begin, name.String())
		case '\\':
			stands, fault := s.escape()
			if fault != nil {
				return api.Token{}, fault
			}
			name.WriteString(stands)
		default:
			name.WriteString(s.take())
		}
	}
}

func quotedName(begin place, name string) (api.Token, *api.Fault) {
	if !names.Valid(name) {
		return api.Token{}, begin.fault(api.ErrName, name)
	}
	return begin.token(api.TokenQuoted, name), nil
}

// escape is what the escape that is next stands for.
func (s *scanner) escape() (string, *api.Fault) {
	begin, from := s.here, s.next
	s.pass() // the backslash
	switch s.peek() {
	case '"', '\\':
		return s.take(), nil
	case 'u':
		s.pass()
		if stands, ok := s.numbered(); ok {
			return stands, nil
		}
	}
	return "", begin.fault(api.ErrEscape, s.escapeWord(from))
}

// escapeWord is what a fault tells of an escape that begins at a character's number.
func (s *scanner) escapeWord(from int) string {
	to := from + 1
	if to < len(s.runes) && s.runes[to] != lineEnd {
		to++
	}
	return s.bytes(from, to)
}

// numbered is the character whose number stands next, in braces.
func (s *scanner) numbered() (string, bool) {
	if s.peek() != '{' {
		return "", false
	}
	s.pass()
	from := s.next
	s.passWhile(isHexDigit)
	digits := s.runes[from:s.next]
	if len(digits) < 1 || len(digits) > 6 || s.peek() != '}' {
		return "", false
	}
	s.pass()
	return characterOf(digits)
}

func characterOf(digits []rune) (string, bool) {
	n, err := strconv.ParseInt(string(digits), 16, 32)
	if err != nil || !utf8.ValidRune(rune(n)) {
		return "", false
	}
	return string([]rune{rune(n)}), true
}
