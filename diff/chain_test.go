package diff_test

import (
	"slices"
	"strconv"
	"strings"
	"testing"

	"gatehouse/api"
	"gatehouse/diff"
)

// 13.3

func wantChain(t *testing.T, what string, got [][]api.Change, want ...string) {
	t.Helper()
	var lists []string
	for _, l := range got {
		lists = append(lists, written(l))
	}
	if !slices.Equal(lists, want) {
		t.Errorf("%s: the chain is %q, want %q", what, lists, want)
	}
}

func TestChainsOfNoPolicyAndOfOne(t *testing.T) {
	a, b := load(t, firstText), load(t, secondText)
	wantChain(t, "none behind the first", diff.Chain(a))
	wantChain(t, "a list of none behind the first", diff.Chain(a, []api.Policy{}...))
	wantChain(t, "no list behind the first", diff.Chain(a, []api.Policy(nil)...))
	wantChain(t, "none behind an empty policy", diff.Chain(api.Policy{}))
	wantChain(t, "one", diff.Chain(a, b), there)
	wantChain(t, "one, as a list", diff.Chain(a, []api.Policy{b}...), there)
	wantChain(t, "itself", diff.Chain(a, a), "")
	wantChain(t, "two empty policies", diff.Chain(api.Policy{}, api.Policy{}), "")
}

func TestChainsOfMore(t *testing.T) {
	a, b := load(t, firstText), load(t, secondText)
	const all = "x/d/o x/d/p y/d/p"
	wantChain(t, "that comes back", diff.Chain(a, b, a), there, back)
	wantChain(t, "that comes back twice", diff.Chain(a, b, a, b, a), there, back, there, back)
	wantChain(t, "that stands still", diff.Chain(a, a, b, b, b, a), "", there, "", "", back)
	wantChain(t, "through nothing", diff.Chain(a, api.Policy{}, a), "-x/d/o -x/d/p -y/d/p", "+x/d/o +x/d/p +y/d/p")
	wantChain(t, "from nothing to nothing", diff.Chain(api.Policy{}, b, api.Policy{}, api.Policy{}), "+y/d/q +x/d/p +x/d/q", "-y/d/q -x/d/p -x/d/q", "")
	wantChain(t, "one order to another", diff.Chain(a, policy("y x/d/p o", all), policy("y x/d/p o", ""), policy("x y/d/p o", all)), "", "-y/d/p -x/d/p -x/d/o", "+x/d/p +x/d/o +y/d/p")
	wantChain(t, "step by step", diff.Chain(policy("x/d/o p q", "x/d/o"), policy("x/d/o p q", "x/d/o x/d/p"), policy("x/d/o p q", "x/d/p x/d/q"), policy("x/d/o p q", "x/d/o")),
		"+x/d/p", "-x/d/o +x/d/q", "-x/d/p -x/d/q +x/d/o")
}

// Each list is that of List of the two policies, however long the chain is.
func TestALongChain(t *testing.T) {
	const long = 3000
	at := func(i int) string { return "x/d/a" + strconv.Itoa(i) }
	row := []api.Policy{}
	for i := range long {
		row = append(row, policy("x/d/a"+strconv.Itoa(i)+" a"+strconv.Itoa(i+1), at(i)+" "+at(i+1)))
	}
	got := diff.Chain(row[0], row[1:]...)
	if len(got) != long-1 {
		t.Fatalf("%d lists", len(got))
	}
	for i, l := range got {
		if want := "-" + at(i) + " +" + at(i+2); written(l) != want || written(diff.List(row[i], row[i+1])) != want {
			t.Fatalf("the list %d is %q, want %q", i, written(l), want)
		}
	}
}

func TestTheListHandedInMayBeOnePolicyManyTimes(t *testing.T) {
	a := load(t, firstText)
	got := diff.Chain(a, slices.Repeat([]api.Policy{a}, 50)...)
	if len(got) != 50 {
		t.Fatalf("%d lists", len(got))
	}
	wantChain(t, "itself, many times", got, strings.Split(strings.Repeat(",", 49), ",")...)
}
