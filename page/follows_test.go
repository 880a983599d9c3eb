package page_test

import (
	"slices"
	"testing"

	"gatehouse/api"
	"gatehouse/graph"
	"gatehouse/names"
	"gatehouse/page"
)

// wantAlike asks of all names of an index whether the words decide as the graph does, within their bound; it answers how many triples are allowed.
func wantAlike(t *testing.T, words []int, g api.Graph, x *names.Index[string]) int {
	t.Helper()
	yes := 0
	for s, subject := range x.All() {
		for o, object := range x.All() {
			for a, action := range x.All() {
				want := graph.Decide(g, api.Triple{Subject: subject, Object: object, Action: action})
				got, read := page.Decide(words, s, o, a)
				if got != want || read > 6+3*words[1] {
					t.Fatalf("%v: Decide of %s, %s, %s: %v, %d words", words, subject, object, action, got, read)
				}
				if got {
					yes++
				}
			}
		}
	}
	return yes
}

// inOrder says whether an index gave the symbols in the order of the names.
func inOrder(x *names.Index[string], list []string) bool {
	var symbols []int
	for _, name := range list {
		n, _ := x.Find(name)
		symbols = append(symbols, n)
	}
	return slices.IsSorted(symbols)
}

func empties(words []int) int {
	n := 0
	for place := range words[1] {
		if words[4+2*place] == 0 && words[5+2*place] == 0 {
			n++
		}
	}
	return n
}

// wantFollows asks for all that the chapter says of a valid graph; it answers how many triples are allowed, and whether the graph was to be read as it is.
func wantFollows(t *testing.T, version int, g api.Graph, x *names.Index[string]) (int, bool) {
	t.Helper()
	words, e := page.Lay(version, g, x)
	if e != api.OK || len(words) != page.Size(g) {
		t.Fatalf("Lay of %+v: %v, %d", g, words, e)
	}
	if _, ok := slowRead(words, x); !ok {
		t.Fatalf("%v is not well laid", words)
	}
	yes := wantAlike(t, words, g, x)
	v, back, e := page.Read(words, x)
	if v != version || e != api.OK || !graph.Valid(back) {
		t.Fatalf("Read of %v: %d, %+v, %d", words, v, back, e)
	}
	wantAlike(t, words, back, x)
	ordered := inOrder(x, g.Subjects) && inOrder(x, g.Objects)
	if ordered && !sameGraph(back, g) {
		t.Fatalf("%+v is read back as %+v", g, back)
	}
	if 2*empties(words) < words[1] {
		t.Fatalf("%v: %d empty places", words, empties(words))
	}
	if again, e := page.Lay(version, g, x); e != api.OK || !slices.Equal(again, words) {
		t.Fatalf("laid again: %v, %d, want %v", again, e, words)
	}
	return yes, ordered
}

func TestWhatFollows(t *testing.T) {
	d := dice(24)
	graphs := []api.Graph{{}, small(), sevenGraph(), graph.Compile(load(t, example)), made("n", "n", "n", "1", "1", "1")}
	for range 600 {
		graphs = append(graphs, d.graph())
	}
	allowed, ordered, others := 0, 0, 0
	for _, g := range graphs {
		for _, x := range []*names.Index[string]{names.NewIndex[string](), d.index()} {
			yes, same := wantFollows(t, 1+d.throw(api.MaxVersion), g, x)
			allowed += yes
			if same {
				ordered++
			} else {
				others++
			}
		}
	}
	if allowed < 5000 || ordered < 100 || others < 300 {
		t.Errorf("%d allowed; %d graphs as they were, %d not: too few to tell", allowed, ordered, others)
	}
}

// An empty index gives the symbols in order, if no name names two things: the graph is read back as it is.
func TestReadBackAsItIs(t *testing.T) {
	d := dice(25)
	for range 1000 {
		g := d.graph()
		for i := range g.Subjects {
			g.Subjects[i] = "subject " + g.Subjects[i]
		}
		for j := range g.Objects {
			g.Objects[j] = "object " + g.Objects[j]
		}
		x := names.NewIndex[string]()
		words, e := page.Lay(3, g, x)
		if e != api.OK {
			t.Fatal(e)
		}
		wantRead(t, "an empty index", words, x, 3, g)
	}
}

// One index for many graphs, as a store has it: the page of each is read with the index as it is later, too.
func TestOneIndexForMany(t *testing.T) {
	d := dice(26)
	x := names.NewIndex[string]()
	var pages [][]int
	var graphs []api.Graph
	for range 200 {
		g := d.graph()
		for i := range g.Subjects {
			g.Subjects[i] += of(&d, []string{"", "", "a", "b"})
		}
		if !graph.Valid(g) {
			continue
		}
		words, e := page.Lay(len(pages)+1, g, x)
		if e != api.OK {
			t.Fatal(e)
		}
		pages, graphs = append(pages, words), append(graphs, g)
	}
	for i, words := range pages {
		v, back, e := page.Read(words, x)
		if v != i+1 || e != api.OK {
			t.Fatalf("Read of %v: %d, %d", words, v, e)
		}
		again, e := page.Lay(i+1, graphs[i], x)
		if e != api.OK || !slices.Equal(again, words) {
			t.Fatalf("laid again: %v, %d, want %v", again, e, words)
		}
		if i%20 == 0 {
			wantAlike(t, words, graphs[i], x)
			wantAlike(t, words, back, x)
		}
	}
	if len(pages) < 100 {
		t.Errorf("%d pages: too few to tell", len(pages))
	}
}

// The great graph, asked of all its names.
func TestTheGreatGraphDecides(t *testing.T) {
	g, x := greatGraph(), index("z y x w")
	words, e := page.Lay(1, g, x)
	if e != api.OK {
		t.Fatal(e)
	}
	if yes := wantAlike(t, words, g, x); yes != 64 {
		t.Errorf("%d allowed", yes)
	}
}
