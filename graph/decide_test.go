package graph_test

import (
	"math"
	"slices"
	"testing"

	"gatehouse/api"
	"gatehouse/graph"
)

func TestDecideOfAValidGraph(t *testing.T) {
	g := good()
	yes := triples("a/o/x a/q/x c/o/x c/q/x b/o/x b/o/y b/q/x b/q/y b/p/y")
	for _, s := range []string{"a", "b", "c", "d", "e", "", "o", "x"} {
		for _, o := range []string{"o", "p", "q", "r", "", "a", "x"} {
			for _, a := range []string{"x", "y", "z", "", "a", "o"} {
				x := api.Triple{Subject: s, Object: o, Action: a}
				if got := graph.Decide(g, x); got != slices.Contains(yes, x) {
					t.Errorf("%v: %v", x, got)
				}
			}
		}
	}
	wantDecide(t, "nothing is there", api.Graph{}, "//", false)
	wantDecide(t, "nothing is there", api.Graph{}, "a/o/x", false)
}

func TestEachBit(t *testing.T) {
	names := numbered("a", 16)
	for k := range 16 {
		g := api.Graph{Actions: names, Subjects: []string{"s"}, Objects: []string{"o"}, Of: []int{1}, On: []int{1}, Masks: [][]uint16{{1 << k}}}
		for i, name := range names {
			wantDecide(t, "one bit", g, "s/o/"+name, i == k)
		}
		g.Masks[0][0] = ^g.Masks[0][0]
		for i, name := range names {
			wantDecide(t, "all bits but one", g, "s/o/"+name, i != k)
		}
	}
}

// A graph need not be valid: what it has not got answers no, what it has got counts.
func TestDecideOfGraphsThatAreNotValid(t *testing.T) {
	for _, c := range []struct {
		what string
		g    api.Graph
		x    string
		want bool
	}{
		{"Of 0", made("x", "a", "o", "0", "1", "1"), "a/o/x", false},
		{"On 0", made("x", "a", "o", "1", "0", "1"), "a/o/x", false},
		{"Of below 0", made("x", "a", "o", "-1", "1", "1", "1"), "a/o/x", false},
		{"On below 0", made("x", "a", "o", "1", "-1", "1 1"), "a/o/x", false},
		{"Of behind the rows", made("x", "a", "o", "2", "1", "1"), "a/o/x", false},
		{"Of at the last row", made("x", "a", "o", "2", "1", "0", "1"), "a/o/x", true},
		{"On behind the columns", made("x", "a", "o", "1", "2", "1"), "a/o/x", false},
		{"On at the last column", made("x", "a", "o", "1", "2", "0 1"), "a/o/x", true},
		{"On behind its own row alone", made("x", "a b", "o", "1 2", "2", "1", "1 1"), "a/o/x", false},
		{"On within its own row alone", made("x", "a b", "o", "1 2", "2", "1", "1 1"), "b/o/x", true},
		{"no rows", made("x", "a", "o", "1", "1"), "a/o/x", false},
		{"a row without columns", made("x", "a", "o", "1", "1", ""), "a/o/x", false},
		{"Of is too short", made("x", "a b", "o", "1", "1", "1"), "b/o/x", false},
		{"Of is too short, and has this one", made("x", "a b", "o", "1", "1", "1"), "a/o/x", true},
		{"On is too short", made("x", "a", "o p", "1", "1", "1"), "a/p/x", false},
		{"On is too short, and has this one", made("x", "a", "o p", "1", "1", "1"), "a/o/x", true},
		{"Of is too long", made("x", "a", "o", "1 1", "1", "1"), "a/o/x", true},
		{"no Of", made("x", "a", "o", "", "1", "1"), "a/o/x", false},
		{"no On", made("x", "a", "o", "1", "", "1"), "a/o/x", false},
		{"no subjects", made("x", "", "o", "1", "1", "1"), "a/o/x", false},
		{"no objects", made("x", "a", "", "1", "1", "1"), "a/o/x", false},
		{"no actions", made("", "a", "o", "1", "1", "1"), "a/o/x", false},
		{"a bit that stands for nothing", made("x", "a", "o", "1", "1", "2"), "a/o/y", false},
		{"a subject twice: the first counts, no", made("x", "a a", "o", "1 2", "1", "0", "1"), "a/o/x", false},
		{"a subject twice: the first counts, yes", made("x", "a a", "o", "1 2", "1", "1", "0"), "a/o/x", true},
		{"an object twice: the first counts, no", made("x", "a", "o o", "1", "1 2", "0 1"), "a/o/x", false},
		{"an object twice: the first counts, yes", made("x", "a", "o o", "1", "1 2", "1 0"), "a/o/x", true},
		{"an action twice: the first counts, no", made("x x", "a", "o", "1", "1", "2"), "a/o/x", false},
		{"an action twice: the first counts, yes", made("x x", "a", "o", "1", "1", "1"), "a/o/x", true},
		{"the first of two has no class", made("x", "a a", "o", "0 1", "1", "1"), "a/o/x", false},
		{"equal rows", made("x", "a b", "o", "1 2", "1", "1", "1"), "b/o/x", true},
		{"classes in no order", made("x", "a b", "o p", "2 1", "2 1", "0 1", "0 0"), "b/o/x", true},
		{"row and column are not changed about", made("x", "a", "o", "1", "2", "0 1", "0 0"), "a/o/x", true},
		{"row and column are not changed about", made("x", "a", "o", "2", "1", "0 1", "0 0"), "a/o/x", false},
	} {
		wantDecide(t, c.what, c.g, c.x, c.want)
	}
}

func TestNumbersFarAway(t *testing.T) {
	for _, n := range []int{math.MinInt, math.MinInt + 1, -1 << 32, -65536, -64, -1, 0, 2, 64, 65536, 1 << 32, 1<<32 + 1, math.MaxInt - 1, math.MaxInt} {
		g := made("x", "a", "o", "1", "1", "1")
		g.Of[0] = n
		wantDecide(t, "Of", g, "a/o/x", false)
		g.Of[0], g.On[0] = 1, n
		wantDecide(t, "On", g, "a/o/x", false)
		g.Of[0] = n
		wantDecide(t, "Of and On", g, "a/o/x", false)
	}
}

func TestActionsAbove15(t *testing.T) {
	g := api.Graph{Actions: numbered("a", 90), Subjects: []string{"s"}, Objects: []string{"o"}, Of: []int{1}, On: []int{1}, Masks: rows("65535")}
	for k, name := range g.Actions {
		wantDecide(t, "more than 16 actions", g, "s/o/"+name, k <= 15)
	}
	g.Actions[70] = "a03"
	wantDecide(t, "one at 3 and at 70: the first counts", g, "s/o/a03", true)
	g.Actions[3] = "z"
	wantDecide(t, "now at 70 alone", g, "s/o/a03", false)
}

// More than 64 of a kind count too.
func TestLongGraphs(t *testing.T) {
	const n = 300
	g := api.Graph{Actions: []string{"x"}, Subjects: make([]string, n), Objects: make([]string, n), Of: make([]int, n), On: make([]int, n), Masks: make([][]uint16, n)}
	for i := range n {
		g.Subjects[i], g.Objects[i] = "s"+string(rune(1000+i)), "o"+string(rune(1000+i))
		g.Of[i], g.On[i], g.Masks[i] = i+1, n-i, make([]uint16, n)
	}
	g.Masks[n-1][0] = 1
	for i := range n {
		x := api.Triple{Subject: g.Subjects[n-1], Object: g.Objects[i], Action: "x"}
		if got := graph.Decide(g, x); got != (i == n-1) {
			t.Errorf("the last subject and the object %d: %v", i, got)
		}
	}
	wantValid(t, "300 of a kind", g, false)
}
