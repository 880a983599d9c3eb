package reach_test

import (
	"slices"
	"strconv"
	"strings"
	"testing"

	"gatehouse/api"
	"gatehouse/reach"
)

// drawn are rings as they stand in a table: {a b} {c}.
func drawn(rings [][]string) string {
	var words []string
	for _, r := range rings {
		words = append(words, "{"+listed(r)+"}")
	}
	return strings.Join(words, " ")
}

func wantRings(t *testing.T, l []api.Pair, want string) {
	t.Helper()
	if got := drawn(reach.Rings(l)); got != want {
		t.Errorf("Rings of %s: %s, want %s", written(l), got, want)
	}
}

func TestRings(t *testing.T) {
	for _, c := range []struct{ what, pairs, want string }{
		{"no pairs", "", ""},
		{"one pair", "a>b", ""},
		{"a chain", "a>b b>c c>d", ""},
		{"a tree", "a>b a>c b>d b>e c>f", ""},
		{"several ways to one name", "a>b a>c b>d c>d", ""},
		{"a pair twice is no ring", "a>b a>b", ""},
		{"a ring of one", "a>a", "{a}"},
		{"a ring of one, twice", "a>a a>a", "{a}"},
		{"a ring of two", "a>b b>a", "{a b}"},
		{"a ring of two with a pair twice", "a>b a>b b>a b>a", "{a b}"},
		{"a ring of three", "a>b b>c c>a", "{a b c}"},
		{"a ring of five", "a>b b>c c>d d>e e>a", "{a b c d e}"},
		{"a ring with a pair to itself in it", "a>b b>b b>a", "{a b}"},
		{"two rings that share a name are one", "a>b b>a b>c c>b", "{a b c}"},
		{"two rings that share a line are one", "a>b b>c c>a b>d d>a", "{a b c d}"},
		{"a ring with a way out", "a>b b>a b>c c>d", "{a b}"},
		{"a ring with a way in", "x>y y>a a>b b>a", "{a b}"},
		{"a ring behind another one", "a>b b>a b>c c>d d>c", "{a b} {c d}"},
		{"a ring ahead of another one", "c>d d>c a>b b>a b>c", "{c d} {a b}"},
		{"three rings beside one another", "e>e a>b c>d b>a d>c", "{e} {a b} {c d}"},
		{"rings within one another's pairs", "a>b c>d b>a d>c", "{a b} {c d}"},
		{"a name between two rings", "a>b b>a b>x x>c c>d d>c", "{a b} {c d}"},
		{"rings of one side by side", "b>b a>a c>c", "{b} {a} {c}"},
		{"a ring of one in a chain", "a>b b>b b>c", "{b}"},
		{"a ring with an empty name", "a> >a", "{a }"},
		{"the empty name alone", ">", "{}"},
	} {
		if got := drawn(reach.Rings(pairs(c.pairs))); got != c.want {
			t.Errorf("%s: %s, want %s", c.what, got, c.want)
		}
	}
}

// The order is that in which names stand first in the pairs, not that of the letters, nor of the ways.
func TestTheOrderOfRings(t *testing.T) {
	for text, want := range map[string]string{
		"c>b b>a a>c":             "{c b a}",
		"c>a b>c a>b":             "{c a b}",
		"x>c c>b b>a a>c":         "{c b a}",
		"x>b c>b b>a a>c":         "{b c a}",
		"z>d x>y y>x d>z":         "{z d} {x y}",
		"q>d z>z d>d":             "{d} {z}",
		"q>z q>d d>d z>z":         "{z} {d}",
		"p>d p>c p>b c>d b>c d>b": "{d c b}",
		"a>d b>e c>f d>a e>b f>c": "{a d} {b e} {c f}",
		"a>f f>a b>e e>b a>b":     "{a f} {b e}",
		"a>f f>a b>e e>b b>a":     "{a f} {b e}",
	} {
		wantRings(t, pairs(text), want)
	}
}

func TestNoRingInALongChain(t *testing.T) {
	if got := reach.Rings(chain(long)); len(got) != 0 {
		t.Errorf("%d rings", len(got))
	}
}

func TestALongRing(t *testing.T) {
	l := append(chain(long), api.Pair{From: strconv.Itoa(long - 1), To: "0"})
	got := reach.Rings(l)
	if len(got) != 1 || len(got[0]) != long {
		t.Fatalf("%d rings", len(got))
	}
	for i, name := range got[0] {
		if name != strconv.Itoa(i) {
			t.Fatalf("the name %d is %s", i, name)
		}
	}
}

// Many rings in a row, each leading to the next one: the pairs stand from the last ring to the first.
func TestARowOfRings(t *testing.T) {
	const rings = 50000
	var l []api.Pair
	for i := rings - 1; i >= 0; i-- {
		a, b := "a"+strconv.Itoa(i), "b"+strconv.Itoa(i)
		l = append(l, api.Pair{From: a, To: b}, api.Pair{From: b, To: a}, api.Pair{From: b, To: "a" + strconv.Itoa(i+1)})
	}
	got := reach.Rings(l)
	if len(got) != rings {
		t.Fatalf("%d rings", len(got))
	}
	for i, r := range got {
		n := strconv.Itoa(rings - 1 - i)
		if !slices.Equal(r, []string{"a" + n, "b" + n}) {
			t.Fatalf("the ring %d is %v", i, r)
		}
	}
}
