package lex

import (
	"strings"

	"gatehouse/api"
)

// characters are those of a text. A rune alone does not tell which byte it came of where that is no UTF-8, so the bytes are kept beside the runes.
type characters struct {
	text   string
	runes  []rune
	starts []int // where each character begins in the text, and behind the last one the text's length
}

func charactersOf(text string) characters {
	c := characters{text: strings.Clone(text)} // a text that is handed in is not kept
	for at, r := range c.text {
		c.runes = append(c.runes, r)
		c.starts = append(c.starts, at)
	}
	c.starts = append(c.starts, len(c.text))
	return c
}

// bytes is what stands from one character up to another, in memory of its own: what is cut out must not keep the whole text alive.
func (c characters) bytes(from, to int) string {
	return strings.Clone(c.text[c.starts[from]:c.starts[to]])
}

type place struct {
	line, col int
}

func firstPlace() place { return place{line: 1, col: 1} }

// behind is the place behind a character that stands here.
func (p place) behind(r rune) place {
	if r == lineEnd {
		return place{line: p.line + 1, col: 1}
	}
	return place{line: p.line, col: p.col + 1}
}

func (p place) token(kind int8, text string) api.Token {
	return api.Token{Kind: kind, Text: text, Line: p.line, Col: p.col}
}

func (p place) fault(code api.Errno, word string) *api.Fault {
	return &api.Fault{Code: code, Line: p.line, Col: p.col, Word: word}
}
