package page_test

import (
	"math"
	"slices"
	"strconv"
	"strings"
	"testing"

	"gatehouse/api"
	"gatehouse/graph"
	"gatehouse/names"
	"gatehouse/page"
)

// notValid are graphs that may not be, each for another reason.
func notValid() map[string]api.Graph {
	sixty := func(n int) api.Graph {
		return api.Graph{Subjects: numbered("s", n), Of: slices.Repeat([]int{1}, n), Masks: rows("")}
	}
	turned := sixty(65)
	turned.Objects, turned.On, turned.Subjects, turned.Of, turned.Masks = turned.Subjects, turned.Of, nil, nil, nil
	return map[string]api.Graph{
		"17 actions":              {Actions: numbered("a", 17)},
		"65 subjects":             sixty(65),
		"65 objects":              turned,
		"an action twice":         made("x x", "a", "o", "1", "1", "1"),
		"a subject twice":         made("x", "a a", "o", "1 2", "1", "1", "0"),
		"an object twice":         made("x", "a", "o o", "1", "1 2", "1 0"),
		"too few classes":         made("x", "a b", "o", "1", "1", "1"),
		"too many classes":        made("x", "a", "o", "1", "1 1", "1"),
		"classes from 0 on":       made("x", "a", "o", "0", "1", "1"),
		"classes from 2 on":       made("x", "a", "o", "2", "1", "1"),
		"classes that leap":       made("x", "a b", "o", "1 3", "1", "1", "0"),
		"a class below 0":         made("x", "a", "o p", "1", "1 -1", "1"),
		"a class far away":        {Subjects: []string{"a"}, Of: []int{math.MaxInt}, Masks: rows("")},
		"no masks":                made("x", "a", "o", "1", "1"),
		"a row too many":          made("x", "a", "o", "1", "1", "1", "0"),
		"a column too many":       made("x", "a", "o", "1", "1", "1 0"),
		"a column too few":        made("x", "a", "o p", "1", "1 2", "1"),
		"a row and no subjects":   made("x", "", "", "", "", ""),
		"a bit for no action":     made("x", "a", "o", "1", "1", "2"),
		"the bit 15":              made("x", "a", "o", "1", "1", "32768"),
		"equal rows":              made("x", "a b", "o", "1 2", "1", "1", "1"),
		"equal columns":           made("x", "a", "o p", "1", "1 2", "1 1"),
		"two rows, no columns":    made("x", "a b", "", "1 2", "", "", ""),
		"two columns, no rows":    made("x", "", "o p", "", "1 2"),
		"classes and no subjects": made("x", "", "o", "1", "1", "1"),
	}
}

func TestSizes(t *testing.T) {
	for what, g := range notValid() {
		if graph.Valid(g) {
			t.Fatalf("%s: it is valid", what)
		}
		wantSize(t, what, g, 0)
	}
	places := map[int]int{0: 2, 1: 2, 2: 4, 3: 8, 4: 8, 5: 16, 8: 16, 9: 32, 16: 32, 17: 64, 32: 64, 33: 128, 64: 128}
	for keys, places := range places {
		g := api.Graph{Subjects: numbered("s", keys), Of: slices.Repeat([]int{1}, keys)}
		if keys > 0 {
			g.Masks = rows("")
		}
		wantSize(t, "subjects alone", g, 4+2*places)
		wantSize(t, "objects alone", api.Graph{Objects: g.Subjects, On: g.Of}, 4+2*places)
		if keys <= 16 {
			wantSize(t, "actions alone", api.Graph{Actions: g.Subjects}, 4+2*places)
		}
	}
	wantSize(t, "5 keys, 2 rows, 1 column", made("x", "a b", "o p", "1 2", "1 1", "1", "0"), 4+2*16+2)
	wantSize(t, "6 keys, 3 rows, 2 columns", made("x", "a b c", "o p", "1 2 3", "1 2", "1 0", "0 1", "0 0"), 4+2*16+6)
	wantSize(t, "a name of three things is three keys", made("n", "n", "n", "1", "1", "1"), 21)
	wantSize(t, "as much as may be", greatGraph(), 4+2*512+64*64)
}

// greatGraph has 16 actions, 64 subjects and 64 objects, each in a class of its own.
func greatGraph() api.Graph {
	g := api.Graph{Actions: numbered("a", 16), Subjects: numbered("s", 64), Objects: numbered("o", 64)}
	for i := range 64 {
		g.Of, g.On = append(g.Of, i+1), append(g.On, i+1)
		row := make([]uint16, 64)
		row[i] = uint16(1) << (i % 16)
		g.Masks = append(g.Masks, row)
	}
	return g
}

// Of 4 places a subject's search begins at 3, of 8 places at 3 or 7.
func TestPagesByHand(t *testing.T) {
	wantLaid(t, "one name, three things", 1, made("n", "n", "n", "1", "1", "1"), index(""), numbers("1 8 1 1  0 0 7 1 6 1 5 1 0 0 0 0 0 0 0 0  1"), "n")
	wantLaid(t, "other names stand before", 9, small(), index("x y door ann"), numbers("9 8 1 1  0 0 23 1 14 1 0 0 0 0 0 0 0 0 17 1  1"), "x y door ann open")
	wantLaid(t, "all names stand before", 9, small(), index("door ann open"), numbers("9 8 1 1  0 0 15 1 6 1 0 0 0 0 0 0 0 0 9 1  1"), "door ann open")
	wantLaid(t, "two that meet, round the end", 1, made("", "a b", "", "1 1", "", ""), index(""), numbers("1 4 1 0  9 1 0 0 0 0 5 1"), "a b")
	wantLaid(t, "the same, the other one first", 1, made("", "b a", "", "1 1", "", ""), index("a b"), numbers("1 4 1 0  5 1 0 0 0 0 9 1"), "a b")
	wantLaid(t, "four that meet, by twos", 1, made("", "a b c d", "", "1 1 1 1", "", ""), index(""), numbers("1 8 1 0  17 1 0 0 0 0 5 1 13 1 0 0 0 0 9 1"), "a b c d")
	wantLaid(t, "one subject", 1, made("", "a", "", "1", "", ""), index(""), numbers("1 2 1 0  0 0 5 1"), "a")
	wantLaid(t, "one object", 1, made("", "", "a", "", "1"), index(""), numbers("1 2 0 1  6 1 0 0"), "a")
	wantLaid(t, "one action", 1, made("a", "", "", "", ""), index(""), numbers("1 2 0 0  0 0 7 1"), "a")
	wantLaid(t, "an action and a subject that meet", 1, made("a", "b", "", "1", "", ""), index("x b a"), numbers("1 4 1 0  0 0 15 1 0 0 9 1"), "x b a")
	wantLaid(t, "classes and masks", 2, made("x y", "a b c", "o p", "1 2 3", "1 2", "1 2", "3 0", "0 1"), index(""),
		// keys 7 11; 13 17 21; 26 30. Of 16 places 40503 is 7.
		numbers("2 16 3 2  0 0 7 1 30 2 21 3 0 0 0 0 26 1 17 2 0 0 0 0 0 0 13 1 0 0 11 2 0 0 0 0  1 2 3 0 0 1"), "x y a b c o p")
	wantLaid(t, "two of one class", 2, made("x", "a b", "o", "1 1", "1", "1"), index(""), numbers("2 8 1 1  0 0 7 1 0 0 13 1 0 0 0 0 18 1 9 1  1"), "x a b o")
}

// The names get their numbers in the order of their keys, also where one comes again.
func TestNamesGetTheirNumbersInOrder(t *testing.T) {
	x := index("c")
	if _, e := page.Lay(1, made("b a", "d a c", "b e f", "1 1 1", "1 1 1", "0"), x); e != api.OK {
		t.Fatal(e)
	}
	if got := all(x); !slices.Equal(got, strings.Fields("c b a d e f")) {
		t.Errorf("%v", got)
	}
}

func TestVersions(t *testing.T) {
	for _, version := range []int{1, 2, 65536, api.MaxVersion - 1, api.MaxVersion} {
		want := laid()
		want[0] = version
		wantLaid(t, "a version", version, small(), index("open ann door"), want, "open ann door")
		wantLaid(t, "no names", version, api.Graph{}, index("ann"), []int{version, 2, 0, 0, 0, 0, 0, 0}, "ann")
	}
	for _, version := range []int{math.MinInt, -1, 0, api.MaxVersion + 1, api.MaxVersion + 2, 1<<32 + 1, math.MaxInt} {
		wantRefused(t, "no version", version, small(), index("x"), api.ErrRange)
	}
}

func TestTheErrorsInOrder(t *testing.T) {
	for what, g := range notValid() {
		wantRefused(t, what, 1, g, nil, api.ErrNil)
		wantRefused(t, what, 0, g, nil, api.ErrNil)
		wantRefused(t, what, 0, g, index("z"), api.ErrRange)
		wantRefused(t, what, 1, g, index("z"), api.ErrPage)
	}
	wantRefused(t, "no index", 0, small(), nil, api.ErrNil)
	wantRefused(t, "no index", 1, api.Graph{}, nil, api.ErrNil)
}

// A text that is no name gets its number too: a valid graph may have it.
func TestTextsThatAreNoNames(t *testing.T) {
	long := strings.Repeat("x", 5000)
	g := api.Graph{Actions: []string{""}, Subjects: []string{"\xff", long}, Objects: []string{"", "a\nb"}, Of: []int{1, 2}, On: []int{1, 1}, Masks: rows("1", "0")}
	x := names.NewIndex[string]()
	words, e := page.Lay(3, g, x)
	if e != api.OK || !slices.Equal(all(x), []string{"", "\xff", long, "a\nb"}) {
		t.Fatalf("%v, %d", words, e)
	}
	wantRead(t, "texts", words, x, 3, g)
	wantDecide(t, "texts", words, 2, 1, 1, true, 9)
}

// nearlyFull has room for so many names.
func nearlyFull(room int) *names.Index[string] {
	x := names.NewIndex[string]()
	for i := range api.MaxSymbols - room {
		x.Of("n" + strconv.Itoa(i))
	}
	return x
}

func TestAFullIndex(t *testing.T) {
	x := nearlyFull(3)
	wantRefused(t, "one name too many", 1, made("open", "ann bob", "door", "1 1", "1", "1"), x, api.ErrMany)
	wantRefused(t, "four too many", 1, made("a b", "c d e", "f g", "1 1 1", "1 1", "1"), x, api.ErrMany)
	wantRefused(t, "no version", 0, made("open", "ann bob", "door", "1 1", "1", "1"), x, api.ErrRange)
	wantRefused(t, "not valid", 1, made("open", "ann bob", "door", "1 2", "1", "1"), x, api.ErrPage)

	two := made("n5 p", "p n7 q n5", "q p n7", "1 1 1 1", "1 1 1", "1")
	first, e := page.Lay(1, two, x) // p and q are new, each three times at most
	if e != api.OK || x.Len() != api.MaxSymbols-1 {
		t.Fatalf("%d, %d names", e, x.Len())
	}
	wantRefused(t, "two new ones, and room for one", 1, made("r", "s", "n1", "1", "1", "1"), x, api.ErrMany)
	one := made("r", "r", "r", "1", "1", "1")
	if _, e := page.Lay(1, one, x); e != api.OK || x.Len() != api.MaxSymbols {
		t.Fatalf("one name, three things: %d, %d names", e, x.Len())
	}
	wantRefused(t, "it is full", 1, made("s", "", "", "", ""), x, api.ErrMany)
	wantRefused(t, "it is full", 1, made("r", "p n2", "zz", "1 1", "1", "1"), x, api.ErrMany)
	again, e := page.Lay(1, two, x)
	if e != api.OK || !slices.Equal(again, first) {
		t.Errorf("full, and no new names: %v, %d, want %v", again, e, first)
	}
	if words, e := page.Lay(1, api.Graph{}, x); e != api.OK || len(words) != 8 {
		t.Errorf("full, and no names: %v, %d", words, e)
	}
	words, e := page.Lay(1, one, x)
	if e != api.OK {
		t.Fatal(e)
	}
	if yes, _ := page.Decide(words, api.MaxSymbols, api.MaxSymbols, api.MaxSymbols); !yes {
		t.Errorf("the last symbol: %v", words)
	}
	wantRead(t, "the last symbol", words, x, 1, one)
}
