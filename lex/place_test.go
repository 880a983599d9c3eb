package lex_test

import (
	"math"
	"strings"
	"testing"
	"unicode/utf8"

	"gatehouse/lex"
)

func wantPlace(t *testing.T, text string, at, line, col int) {
	t.Helper()
	if l, c := lex.Place(text, at); l != line || c != col {
		t.Errorf("Place(%.40q, %d) = %d %d, want %d %d", text, at, l, c, line, col)
	}
}

func TestPlaceExample(t *testing.T) {
	for at, want := range [][2]int{{1, 1}, {1, 2}, {1, 2}, {1, 3}, {2, 1}, {2, 2}, {0, 0}} {
		wantPlace(t, "a\u00e9\nb", at, want[0], want[1])
	}
}

func TestPlaceOutsideTheText(t *testing.T) {
	for _, text := range []string{"", "a", "a\n", "\u00e9", "\xff", strings.Repeat("a", 70000)} {
		for _, at := range []int{-1, -2, len(text) + 1, len(text) + 2, math.MaxInt, math.MinInt, math.MinInt + 1, -len(text) - 1} {
			wantPlace(t, text, at, 0, 0)
		}
	}
	wantPlace(t, "", 0, 1, 1)
	wantPlace(t, "\n", 0, 1, 1)
	wantPlace(t, "\n", 1, 2, 1)
	wantPlace(t, "\u20ac", 3, 1, 2)
}

func TestPlaceInCharactersOfSeveralBytes(t *testing.T) {
	text := "x\u00e9\u20ac\n\U0001f6aa\xe2\x82\xf0\x9f\x9aa\r\n\t\xff"
	want := [][2]int{
		{1, 1}, {1, 2}, {1, 2}, {1, 3}, {1, 3}, {1, 3}, {1, 4},
		{2, 1}, {2, 1}, {2, 1}, {2, 1}, {2, 2}, {2, 3}, {2, 4}, {2, 5}, {2, 6}, {2, 7}, {2, 8}, {2, 9},
		{3, 1}, {3, 2}, {3, 3},
	}
	if len(want) != len(text)+1 {
		t.Fatalf("%d places for %d bytes", len(want), len(text))
	}
	for at, p := range want {
		wantPlace(t, text, at, p[0], p[1])
	}
}

// All texts of up to four pieces, at each byte, held against a count of what stands ahead.
func TestPlaceAgainstCount(t *testing.T) {
	layer := []string{""}
	for range 4 {
		var next []string
		for _, s := range layer {
			for _, p := range []string{"a", "\n", "\r", "\u00e9", "\u20ac", "\U0001f6aa", "\xe2", "\x82", "\xac", "\"", "#"} {
				next = append(next, s+p)
			}
		}
		layer = next
		for _, s := range layer {
			start := 0
			for start < len(s) {
				_, size := utf8.DecodeRuneInString(s[start:])
				line, col := count(s[:start])
				for at := start; at < start+size; at++ {
					wantPlace(t, s, at, line, col)
				}
				start += size
			}
			line, col := count(s)
			wantPlace(t, s, len(s), line, col)
			if t.Failed() {
				return
			}
		}
	}
}

func TestPlaceOfLongTexts(t *testing.T) {
	text := strings.Repeat("\u00e9\n", 100000)
	wantPlace(t, text, len(text), 100001, 1)
	wantPlace(t, text, len(text)-1, 100000, 2)
	wantPlace(t, text, len(text)-2, 100000, 1)
	wantPlace(t, text, len(text)-3, 100000, 1)
	wantPlace(t, strings.Repeat("a", 1<<20), 1<<20, 1, 1<<20+1)
	wantPlace(t, strings.Repeat("a", 1<<20), 1<<20-1, 1, 1<<20)
}

// A token's place is that of its first byte.
func TestTokensStandAtTheirPlaces(t *testing.T) {
	text := "a \"\u00e9 b\" # \u20ac\n\t0.5; role\r\n\n  \"\\u{41}\"*\"z\",\n"
	offsets := []int{0, 2, 16, 19, 21, 30, 38, 39, 42, 44}
	tokens, err := lex.Scan(text)
	if err != nil || len(tokens) != len(offsets) {
		t.Fatalf("%v, %v", tokens, err)
	}
	for i, token := range tokens {
		wantPlace(t, text, offsets[i], token.Line, token.Col)
	}
}
