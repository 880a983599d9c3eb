package reach_test

import (
	"slices"
	"strconv"
	"testing"

	"gatehouse/api"
	"gatehouse/reach"
)

func TestUp(t *testing.T) {
	for _, c := range []struct{ what, pairs, from, want string }{
		{"no pairs", "", "a", "a"},
		{"a chain from its start", "a>b b>c c>d", "a", "a b c d"},
		{"a chain from its middle", "a>b b>c c>d", "b", "b c d"},
		{"a chain from its end", "a>b b>c c>d", "d", "d"},
		{"a chain whose pairs stand the other way round", "c>d b>c a>b", "a", "a b c d"},
		{"a tree: the near ones first", "a>b b>d b>e a>c c>f", "a", "a b c d e f"},
		{"a tree: in the pairs' order", "a>c a>b b>d c>f b>e", "a", "a c b f d e"},
		{"several ways to one name", "a>b a>c b>d c>d d>e a>e", "a", "a b c e d"},
		{"not against the pairs", "b>a c>a", "a", "a"},
		{"a pair to itself", "a>a", "a", "a"},
		{"a pair to itself, and on", "a>a a>b b>b", "a", "a b"},
		{"a pair twice", "a>b a>b b>c a>b b>c", "a", "a b c"},
		{"a ring of two", "a>b b>a", "b", "b a"},
		{"a ring of three", "a>b b>c c>a", "c", "c a b"},
		{"a ring that does not hold the start", "a>b b>c c>b", "a", "a b c"},
		{"a ring beside it", "a>b c>d d>c", "a", "a b"},
		{"a name that no pair has", "a>b b>c", "x", "x"},
		{"a name that begins as another", "a>b ab>c", "ab", "ab c"},
		{"other letters are other names", "A>b a>c", "a", "a c"},
		{"an empty name in the pairs", "a> >b", "a", "a  b"},
		{"an empty name as the start", ">a a>b", "", " a b"},
		{"an empty name that no pair has", "a>b", "", ""},
	} {
		if got := reach.Up(pairs(c.pairs), c.from); listed(got) != c.want || len(got) == 0 {
			t.Errorf("%s: %q, want %s", c.what, got, c.want)
		}
	}
}

// Names are bytes: also those that no policy has.
func TestUpOfAnyBytes(t *testing.T) {
	l := []api.Pair{{From: "\xff", To: "a\x00"}, {From: "a\x00", To: "\xff\xfe"}, {From: "a", To: "no"}, {From: "\xff\xfe", To: "two words"}}
	if got := reach.Up(l, "\xff"); !slices.Equal(got, []string{"\xff", "a\x00", "\xff\xfe", "two words"}) {
		t.Errorf("%q", got)
	}
}

// chain are pairs from 0 to 1, from 1 to 2 and so on.
func chain(names int) []api.Pair {
	var l []api.Pair
	for i := range names - 1 {
		l = append(l, api.Pair{From: strconv.Itoa(i), To: strconv.Itoa(i + 1)})
	}
	return l
}

const long = 200000

func TestUpOfALongChain(t *testing.T) {
	got := reach.Up(chain(long), "0")
	if len(got) != long {
		t.Fatalf("%d names", len(got))
	}
	for i, name := range got {
		if name != strconv.Itoa(i) {
			t.Fatalf("the name %d is %s", i, name)
		}
	}
}
