package reach_test

import (
	"strconv"
	"testing"

	"gatehouse/api"
	"gatehouse/reach"
)

func TestPath(t *testing.T) {
	for _, c := range []struct{ what, pairs, from, to, want string }{
		{"a chain", "a>b b>c c>d", "a", "d", "a b c d"},
		{"a piece of a chain", "a>b b>c c>d", "b", "c", "b c"},
		{"of two ways the one whose reason came first", "a>b a>c c>d b>d", "a", "d", "a b d"},
		{"and not the one whose pair stands first", "c>d b>d a>b a>c", "a", "d", "a b d"},
		{"the other way round", "a>c a>b b>d c>d", "a", "d", "a c d"},
		{"the shorter way, also if it comes later", "a>b b>c c>d a>e e>d", "a", "d", "a e d"},
		{"one pair alone, also if it comes last", "a>b b>c c>d a>d", "a", "d", "a d"},
		{"a reason two steps back", "a>b a>c b>d c>e d>f e>f", "a", "f", "a b d f"},
		{"to itself", "a>b b>a", "a", "a", "a"},
		{"to itself, with a pair to itself", "a>a a>b b>a", "a", "a", "a"},
		{"to itself, of no pair", "a>b", "x", "x", "x"},
		{"back to a ring's start", "a>b b>c c>a", "b", "a", "b c a"},
		{"through a ring that holds the start", "a>b b>a b>c", "a", "c", "a b c"},
		{"through a ring that does not hold it", "a>b b>c c>b c>d", "a", "d", "a b c d"},
		{"with a pair to itself on the way", "a>b b>b b>c", "a", "c", "a b c"},
		{"with a pair that stands twice", "a>b a>b b>c b>c", "a", "c", "a b c"},
		{"through an empty name", "a> >b", "a", "b", "a  b"},
		{"from an empty name", ">b", "", "b", " b"},
	} {
		if got := reach.Path(pairs(c.pairs), c.from, c.to); listed(got) != c.want {
			t.Errorf("%s: %q, want %s", c.what, got, c.want)
		}
	}
}

func TestNoPath(t *testing.T) {
	for _, c := range []struct{ what, pairs, from, to string }{
		{"no pairs", "", "a", "b"},
		{"against the pairs", "a>b b>c", "c", "a"},
		{"to one that no pair has", "a>b", "a", "x"},
		{"from one that no pair has", "a>b", "x", "a"},
		{"between two that no pair has", "a>b", "x", "y"},
		{"to a ring beside it", "a>b c>d d>c", "a", "c"},
		{"to one that only leads to the same", "a>c b>c", "a", "b"},
		{"to an empty name", "a>b", "a", ""},
		{"from an empty name", "a>b", "", "a"},
	} {
		if got := reach.Path(pairs(c.pairs), c.from, c.to); len(got) != 0 {
			t.Errorf("%s: %q, want none", c.what, got)
		}
	}
}

// From an empty name to itself that name alone is a way, and a list of one empty name is not the same as none.
func TestPathOfTheEmptyNameToItself(t *testing.T) {
	for _, l := range [][]api.Pair{nil, pairs("a>b"), pairs("a> >a"), pairs(">")} {
		if got := reach.Path(l, "", ""); len(got) != 1 || got[0] != "" {
			t.Errorf("%s: %q", written(l), got)
		}
	}
}

func TestPathOfALongChain(t *testing.T) {
	got := reach.Path(chain(long), "0", strconv.Itoa(long-1))
	if len(got) != long {
		t.Fatalf("%d names", len(got))
	}
	for i, name := range got {
		if name != strconv.Itoa(i) {
			t.Fatalf("the name %d is %s", i, name)
		}
	}
}
