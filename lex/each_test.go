package lex_test

import (
	"errors"
	"iter"
	"slices"
	"strings"
	"testing"
	"unsafe"

	"gatehouse/api"
	"gatehouse/lex"
)

const threeThings = "a \"b\" ;"

func textsOf(each iter.Seq2[api.Token, error]) []string {
	var texts []string
	for token, err := range each {
		if err != nil {
			texts = append(texts, err.Error())
		} else {
			texts = append(texts, token.Text)
		}
	}
	return texts
}

func TestEachIsGoneOverAgain(t *testing.T) {
	for text, want := range map[string][]string{
		"":                               {""},
		threeThings:                      {"a", "b", ";", ""},
		"a ; @ b":                        {"a", ";", "1:5: error 20: @"},
		"@":                              {"1:1: error 20: @"},
		"a \"":                           {"a", "1:3: error 21: \""},
		"x \"\\":                         {"x", "1:4: error 22: \\"},
		"x\n12 ;":                        {"x", "2:1: error 23: 12"},
		strings.Repeat("a ", 32769):      {"0:0: error 5: "},
		strings.Repeat(" ", 65535) + ";": {";", ""},
	} {
		each := lex.Each(text)
		if each == nil {
			t.Fatalf("Each(%.80q) is nil", text)
		}
		for range 3 {
			if got := textsOf(each); !slices.Equal(got, want) {
				t.Errorf("Each(%.80q): %q, want %q", text, got, want)
			}
		}
	}
}

func TestEachMayBeStopped(t *testing.T) {
	for _, c := range []struct {
		text string
		want []string
	}{
		{threeThings, []string{"a", "b", ";", ""}},
		{"a ; @ b", []string{"a", ";", "1:5: error 20: @"}},
		{strings.Repeat("a", 65537), []string{"0:0: error 5: "}},
	} {
		each := lex.Each(c.text)
		for stop := range len(c.want) {
			n := 0
			for range each {
				if n == stop {
					break
				}
				n++
			}
			if n != stop {
				t.Errorf("Each(%.80q) ends behind %d", c.text, n)
			}
			if got := textsOf(each); !slices.Equal(got, c.want) {
				t.Errorf("Each(%.80q) stopped at %d, then %q", c.text, stop, got)
			}
		}
		next, end := iter.Pull2(each)
		next()
		end()
		if _, _, ok := next(); ok {
			t.Errorf("Each(%.80q) goes on behind its stop", c.text)
		}
	}
}

func TestEachInsideEach(t *testing.T) {
	each := lex.Each(threeThings)
	var got []string
	for token := range each {
		got = append(got, token.Text+"|"+strings.Join(textsOf(each), "|"))
	}
	want := []string{"a|a|b|;|", "b|a|b|;|", ";|a|b|;|", "|a|b|;|"}
	if !slices.Equal(got, want) {
		t.Errorf("%q", got)
	}
}

// Whoever takes a fault may write into it: the next pass tells it as it was.
func TestEachTellsAFaultOfItsOwn(t *testing.T) {
	for _, text := range []string{"@", strings.Repeat(" ", 65537)} {
		each := lex.Each(text)
		want := textsOf(each)
		for _, err := range each {
			var f *api.Fault
			if !errors.As(err, &f) {
				t.Fatal(err)
			}
			*f = api.Fault{Code: api.ErrArg, Line: 9, Col: 9, Word: "w"}
		}
		if got := textsOf(each); !slices.Equal(got, want) {
			t.Errorf("%q, then %q", want, got)
		}
		if got := textsOf(lex.Each(text)); !slices.Equal(got, want) {
			t.Errorf("%q, then %q", want, got)
		}
	}
}

// The text's bytes are written over behind the call, as no program may: an iterator that kept the text would tell the new ones.
func TestEachKeepsNoText(t *testing.T) {
	bytes := []byte(threeThings)
	each := lex.Each(unsafe.String(&bytes[0], len(bytes)))
	for i := range bytes {
		bytes[i] = '@'
	}
	if got := textsOf(each); !slices.Equal(got, []string{"a", "b", ";", ""}) {
		t.Errorf("%q", got)
	}
}

// A text with faults everywhere behind the first token: what is not asked for is not told.
func TestEachTellsOneByOne(t *testing.T) {
	next, end := iter.Pull2(lex.Each("a @ @"))
	defer end()
	if token, err, ok := next(); token != word("a", 1, 1) || err != nil || !ok {
		t.Errorf("%v, %v, %v", token, err, ok)
	}
	if token, err, ok := next(); token != (api.Token{}) || !errors.Is(err, api.ErrByte) || !ok {
		t.Errorf("%v, %v, %v", token, err, ok)
	}
	if token, err, ok := next(); ok {
		t.Errorf("%v, %v", token, err)
	}
}
