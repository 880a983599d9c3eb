package reach_test

import (
	"slices"
	"testing"

	"gatehouse/api"
	"gatehouse/reach"
)

// far is more names than any way has here.
const far = 1000

// ledger is a second reckoning: for each two names the fewest names of a way of at least two, found by joining ways; far, if there is none.
type ledger struct {
	names []string
	least [][]int
}

func newLedger(l []api.Pair) *ledger {
	g := &ledger{}
	for _, p := range l {
		for _, name := range []string{p.From, p.To} {
			if !slices.Contains(g.names, name) {
				g.names = append(g.names, name)
			}
		}
	}
	n := len(g.names)
	for range n {
		g.least = append(g.least, slices.Repeat([]int{far}, n))
	}
	for _, p := range l {
		g.least[g.at(p.From)][g.at(p.To)] = 2
	}
	for via := range n {
		for a := range n {
			for b := range n {
				g.least[a][b] = min(g.least[a][b], g.least[a][via]+g.least[via][b]-1)
			}
		}
	}
	return g
}

func (g *ledger) at(name string) int { return slices.Index(g.names, name) }

// names of the shortest way; 1 from a name to itself.
func (g *ledger) fewest(from, to string) int {
	if from == to {
		return 1
	}
	a, b := g.at(from), g.at(to)
	if a < 0 || b < 0 {
		return far
	}
	return g.least[a][b]
}

func (g *ledger) together(a, b int) bool { return g.least[a][b] < far && g.least[b][a] < far }

func (g *ledger) rings() [][]string {
	var rings [][]string
	for a := range g.names {
		var ring []string
		first := true
		for b := range g.names {
			if g.together(a, b) {
				ring = append(ring, g.names[b])
				first = first && b >= a
			}
		}
		if len(ring) > 0 && first {
			rings = append(rings, ring)
		}
	}
	return rings
}

// slowUp reads the words of the chapter as they stand: the list, and the reason of each of its names.
func slowUp(l []api.Pair, from string) (list []string, reasons []int) {
	list, reasons = []string{from}, []int{-1}
	for turn := 0; turn < len(list); turn++ {
		for _, p := range l {
			if p.From == list[turn] && !slices.Contains(list, p.To) {
				list, reasons = append(list, p.To), append(reasons, turn)
			}
		}
	}
	return list, reasons
}

func slowPath(l []api.Pair, from, to string) []string {
	list, reasons := slowUp(l, from)
	var way []string
	for i := slices.Index(list, to); i >= 0; i = reasons[i] {
		way = slices.Insert(way, 0, list[i])
	}
	return way
}

// held holds all calls with these pairs against the second reckoning, and promise 7.6 against them.
func held(t *testing.T, l []api.Pair, names []string) {
	t.Helper()
	g := newLedger(l)
	for _, from := range names {
		up := reach.Up(l, from)
		if want, _ := slowUp(l, from); !slices.Equal(up, want) {
			t.Fatalf("%s: Up of %s: %v, want %v", written(l), from, up, want)
		}
		for _, to := range names {
			heldPath(t, l, g, from, to, slices.Contains(up, to))
		}
	}
	heldUps(t, l)
	if got, want := reach.Rings(l), g.rings(); drawn(got) != drawn(want) {
		t.Fatalf("%s: Rings: %s, want %s", written(l), drawn(got), drawn(want))
	}
}

func heldPath(t *testing.T, l []api.Pair, g *ledger, from, to string, reached bool) {
	t.Helper()
	way := reach.Path(l, from, to)
	if want := slowPath(l, from, to); !slices.Equal(way, want) {
		t.Fatalf("%s: Path from %s to %s: %v, want %v", written(l), from, to, way, want)
	}
	fewest := g.fewest(from, to)
	if reached != (fewest < far) || reached != (len(way) > 0) {
		t.Fatalf("%s: from %s to %s: reached %v, fewest %d, way %v", written(l), from, to, reached, fewest, way)
	}
	if reached && (len(way) != fewest || !isWay(l, way, from, to)) {
		t.Fatalf("%s: from %s to %s: %v is no shortest way", written(l), from, to, way)
	}
}

func isWay(l []api.Pair, way []string, from, to string) bool {
	for i := 1; i < len(way); i++ {
		if !slices.Contains(l, api.Pair{From: way[i-1], To: way[i]}) {
			return false
		}
	}
	return way[0] == from && way[len(way)-1] == to
}

func heldUps(t *testing.T, l []api.Pair) {
	t.Helper()
	ups := reach.Ups(l)
	for _, p := range l {
		if want, _ := slowUp(l, p.From); !slices.Equal(ups[p.From], want) {
			t.Fatalf("%s: Ups has %v for %s, want %v", written(l), ups[p.From], p.From, want)
		}
	}
	for name := range ups {
		if !slices.ContainsFunc(l, func(p api.Pair) bool { return p.From == name }) {
			t.Fatalf("%s: Ups has a list for %s", written(l), name)
		}
	}
}

// Every list of at most four pairs of three names: the pairs in all orders, and twice.
func TestAllShortLists(t *testing.T) {
	names := []string{"a", "b", "c"}
	count := 0
	var longer func(l []api.Pair)
	longer = func(l []api.Pair) {
		count++
		held(t, l, []string{"a", "b", "c", "x"})
		if len(l) == 4 {
			return
		}
		for _, from := range names {
			for _, to := range names {
				longer(append(slices.Clip(l), api.Pair{From: from, To: to}))
			}
		}
	}
	longer(nil)
	if count != 1+9+81+729+6561 {
		t.Errorf("%d lists", count)
	}
}

// Every set of pairs of three names, and of these without the pairs to themselves of four, in both orders.
func TestAllSetsOfPairs(t *testing.T) {
	all := pairs("a>a a>b a>c b>a b>b b>c c>a c>b c>c")
	heldSubsets(t, all, []string{"a", "b", "c"})
	four := pairs("a>b a>c a>d b>a b>c b>d c>a c>b c>d d>a d>b d>c")
	heldSubsets(t, four, []string{"a", "b", "c", "d"})
}

func heldSubsets(t *testing.T, all []api.Pair, names []string) {
	t.Helper()
	for set := range 1 << len(all) {
		var l []api.Pair
		for i, p := range all {
			if set>>i&1 == 1 {
				l = append(l, p)
			}
		}
		held(t, l, names)
		slices.Reverse(l)
		held(t, l, names)
	}
}

func TestThrownPairs(t *testing.T) {
	d := dice(3)
	rings, ways := 0, 0
	for range 1500 {
		names := 2 + d.throw(11)
		l := d.thrown(names, 2*names)
		var asked []string
		for i := range names + 1 {
			asked = append(asked, string(rune('a'+i)))
		}
		held(t, l, asked)
		rings += min(1, len(reach.Rings(l)))
		ways += min(1, len(reach.Path(l, "a", "b")))
	}
	if rings < 500 || ways < 300 || ways > 1200 {
		t.Errorf("the throws are lopsided: %d with rings, %d with a way", rings, ways)
	}
}
