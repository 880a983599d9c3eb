package page_test

import (
	"reflect"
	"slices"
	"strings"
	"testing"
	"unsafe"

	"gatehouse/api"
	"gatehouse/names"
	"gatehouse/page"
)

// spare is what stands in the room behind a list.
const spare = 3

// spared has room behind it that is filled, so that a write there would be seen.
func spared[E any](l []E, filling E) []E {
	return slices.Concat(l, slices.Repeat([]E{filling}, spare))[:len(l)]
}

func sparedGraph(g api.Graph) api.Graph {
	g.Actions, g.Subjects, g.Objects = spared(g.Actions, "spare"), spared(g.Subjects, "spare"), spared(g.Objects, "spare")
	g.Of, g.On, g.Masks = spared(g.Of, 77), spared(g.On, 77), spared(g.Masks, nil)
	for x := range g.Masks {
		g.Masks[x] = spared(g.Masks[x], 77)
	}
	return g
}

// whole is a copy of a list with what stands in its spare room.
func whole[E any](l []E) []E { return slices.Clone(l[:len(l)+spare]) }

func wholeGraph(g api.Graph) api.Graph {
	g.Masks = whole(g.Masks)
	for x := range len(g.Masks) - spare {
		g.Masks[x] = whole(g.Masks[x])
	}
	g.Actions, g.Subjects, g.Objects, g.Of, g.On = whole(g.Actions), whole(g.Subjects), whole(g.Objects), whole(g.Of), whole(g.On)
	return g
}

// someGraphs are valid and not.
func someGraphs() []api.Graph {
	graphs := []api.Graph{{}, small(), sevenGraph(), greatGraph(), made("n", "n m", "n", "1 1", "1", "1"), made("", "a b", "", "1 1", "", ""), made("", "", "a b", "", "1 1")}
	for _, g := range notValid() {
		graphs = append(graphs, g)
	}
	return graphs
}

func TestWhatIsHandedInStaysAsItIs(t *testing.T) {
	for _, g := range someGraphs() {
		g = sparedGraph(g)
		before := wholeGraph(g)
		x := index("ann z")
		words, e := page.Lay(1, g, x)
		page.Size(g)
		page.Lay(0, g, x)
		page.Lay(1, g, nil)
		if !reflect.DeepEqual(wholeGraph(g), before) {
			t.Errorf("the graph has become %+v, from %+v", wholeGraph(g), before)
		}
		if e != api.OK {
			words = laid()
		}
		known := all(x)
		for _, words := range [][]int{words, words[:min(20, len(words))], seven(), hand("1 4 1 0", "5=1 9=1 13=1 17=1", "")} {
			words = spared(words, 77)
			before := whole(words)
			for symbol := range 6 {
				page.Look(words, symbol, int8(symbol))
				page.Decide(words, symbol, symbol+1, symbol+2)
				page.Read(words, x)
			}
			if !slices.Equal(whole(words), before) {
				t.Errorf("the words have become %v, from %v", whole(words), before)
			}
		}
		if !slices.Equal(all(x), known) {
			t.Errorf("the index has become %v, from %v", all(x), known)
		}
	}
}

// places are where the texts and the lists of a value lie, with the lists' spare room.
func places(v reflect.Value, seen map[unsafe.Pointer]int) {
	switch v.Kind() {
	case reflect.String:
		if v.Len() > 0 {
			seen[unsafe.Pointer(unsafe.StringData(v.String()))]++
		}
	case reflect.Struct:
		for i := range v.NumField() {
			places(v.Field(i), seen)
		}
	case reflect.Slice:
		all := v.Slice(0, v.Cap())
		for i := range all.Len() {
			seen[all.Index(i).Addr().UnsafePointer()]++
			places(all.Index(i), seen)
		}
	}
}

// ownTexts makes each text of a value a text of its own.
func ownTexts(v reflect.Value) {
	switch v.Kind() {
	case reflect.String:
		v.SetString(strings.Clone(v.String()))
	case reflect.Struct:
		for i := range v.NumField() {
			ownTexts(v.Field(i))
		}
	case reflect.Slice:
		for i := range v.Len() {
			ownTexts(v.Index(i))
		}
	}
}

// wantApart asks that an answer lies nowhere where something lay before, and that no two parts of it lie in one place; then it is noted itself.
func wantApart(t *testing.T, noted map[unsafe.Pointer]int, answer any) {
	t.Helper()
	mine := map[unsafe.Pointer]int{}
	places(reflect.ValueOf(answer), mine)
	for at, n := range mine {
		if noted[at] > 0 || n > 1 {
			t.Fatalf("%+v shares memory", answer)
		}
	}
	for at, n := range mine {
		noted[at] += n
	}
}

// A page, the texts that an index keeps, and a graph that is read: none lies where a graph or a page that was handed in lies, nor where another answer does.
func TestWhatIsAnsweredSharesNothing(t *testing.T) {
	var kept []any // so that no place is used again
	noted := map[unsafe.Pointer]int{}
	for _, g := range someGraphs() {
		g = sparedGraph(g)
		ownTexts(reflect.ValueOf(&g).Elem())
		places(reflect.ValueOf(g), noted)
		x := names.NewIndex[string]()
		words, e := page.Lay(1, g, x)
		kept = append(kept, g, words, x)
		if e != api.OK {
			continue
		}
		texts := all(x)
		kept = append(kept, texts)
		wantApart(t, noted, words)
		wantApart(t, noted, texts)
		for range 3 {
			again, _ := page.Lay(1, g, x)
			_, back, _ := page.Read(words, x)
			kept = append(kept, again, back)
			wantApart(t, noted, again)
			wantApart(t, noted, back)
		}
	}
	if len(noted) < 10000 || len(kept) == 0 {
		t.Errorf("%d places: too few to tell", len(noted))
	}
}

// What is done with an answer, or with what was handed in, is not seen in another answer.
func TestAnswersAreApart(t *testing.T) {
	x, g := index(sevenNames), sevenGraph()
	words, _ := page.Lay(2, g, x)
	_, back, _ := page.Read(words, x)
	other, _ := page.Lay(2, g, x)
	clear(other[:cap(other)])
	clear(g.Subjects)
	clear(g.Of)
	clear(g.Masks[0])
	if !slices.Equal(words, seven()) {
		t.Errorf("%v", words)
	}
	clear(words)
	if !sameGraph(back, sevenGraph()) {
		t.Errorf("%+v", back)
	}
	_, another, _ := page.Read(seven(), x)
	clear(another.Actions[:cap(another.Actions)])
	clear(another.Subjects[:cap(another.Subjects)])
	clear(another.Of[:cap(another.Of)])
	for i := range another.Masks {
		_ = append(another.Masks[i], 9, 9, 9)
	}
	if !sameGraph(back, sevenGraph()) || !slices.EqualFunc(another.Masks, sevenGraph().Masks, slices.Equal) {
		t.Errorf("%+v, %+v", back, another)
	}
	wantRead(t, "read again", seven(), x, 2, sevenGraph())
}
