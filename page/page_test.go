package page_test

import (
	"slices"
	"strconv"
	"strings"
	"testing"

	"gatehouse/api"
	"gatehouse/graph"
	"gatehouse/names"
	"gatehouse/page"
	"gatehouse/valid"
)

// example is the policy of the document's text.
const example = `
action open, read, write;
subject ann, bob trust 0.5;
subject "the night watch";
role clerk, guard;
object door1, door2, vault;
group doors, building;
member ann : clerk, guard;
inherit guard : clerk;
part door1 : doors;
within doors : building;
allow clerk on building : open, read above 0.25;
deny guard on vault : *;
except ann on door1 : read;
`

func load(t *testing.T, text string) api.Policy {
	t.Helper()
	p, err := valid.Load(text)
	if err != nil {
		t.Fatal(err)
	}
	return p
}

// numbers are written as "1 0 -3".
func numbers(text string) []int {
	var l []int
	for _, word := range strings.Fields(text) {
		n, err := strconv.Atoi(word)
		if err != nil {
			panic(err)
		}
		l = append(l, n)
	}
	return l
}

// rows are masks, each row written as "1 0"; so an empty text is a row without columns.
func rows(texts ...string) [][]uint16 {
	var l [][]uint16
	for _, text := range texts {
		var row []uint16
		for _, n := range numbers(text) {
			row = append(row, uint16(n))
		}
		l = append(l, row)
	}
	return l
}

func made(actions, subjects, objects, of, on string, masks ...string) api.Graph {
	return api.Graph{
		Actions: strings.Fields(actions), Subjects: strings.Fields(subjects), Objects: strings.Fields(objects),
		Of: numbers(of), On: numbers(on), Masks: rows(masks...),
	}
}

// small is the graph of the chapter's examples.
func small() api.Graph { return made("open", "ann", "door", "1", "1", "1") }

// laid is its page, where its names are open 1, ann 2, door 3.
func laid() []int { return numbers("5 8 1 1  0 0 7 1 14 1 0 0 0 0 0 0 0 0 9 1  1") }

// index has these names, in this order.
func index(text string) *names.Index[string] {
	x := names.NewIndex[string]()
	for _, name := range strings.Fields(text) {
		x.Of(name)
	}
	return x
}

// numbered are n names: a00, a01 ..
func numbered(letter string, n int) []string {
	var l []string
	for i := range n {
		l = append(l, letter+strconv.Itoa(i/10)+strconv.Itoa(i%10))
	}
	return l
}

// all are an index's names, by their numbers.
func all(x *names.Index[string]) []string {
	var l []string
	for _, name := range x.All() {
		l = append(l, name)
	}
	return l
}

// A nil list and one without elements are the same.
func sameGraph(a, b api.Graph) bool {
	return slices.Equal(a.Actions, b.Actions) && slices.Equal(a.Subjects, b.Subjects) && slices.Equal(a.Objects, b.Objects) &&
		slices.Equal(a.Of, b.Of) && slices.Equal(a.On, b.On) && slices.EqualFunc(a.Masks, b.Masks, slices.Equal)
}

// with has other words: "20=2 5=1" puts a 2 into the word 20 and a 1 into the word 5.
func with(words []int, text string) []int {
	words = slices.Clone(words)
	for _, change := range strings.Fields(text) {
		at, to, _ := strings.Cut(change, "=")
		words[numbers(at)[0]] = numbers(to)[0]
	}
	return words
}

func wantSize(t *testing.T, what string, g api.Graph, want int) {
	t.Helper()
	if got := page.Size(g); got != want {
		t.Errorf("%s: Size of %+v: %d, want %d", what, g, got, want)
	}
}

// wantLaid asks for the page, and for the names that the index has then.
func wantLaid(t *testing.T, what string, version int, g api.Graph, x *names.Index[string], want []int, then string) {
	t.Helper()
	got, e := page.Lay(version, g, x)
	if !slices.Equal(got, want) || e != api.OK {
		t.Errorf("%s: Lay of %+v: %v, %d, want %v", what, g, got, e, want)
	}
	if l := all(x); !slices.Equal(l, strings.Fields(then)) {
		t.Errorf("%s: the index has %v, want %s", what, l, then)
	}
}

func wantRefused(t *testing.T, what string, version int, g api.Graph, x *names.Index[string], want api.Errno) {
	t.Helper()
	var before []string
	if x != nil {
		before = all(x)
	}
	if got, e := page.Lay(version, g, x); len(got) != 0 || e != want {
		t.Errorf("%s: Lay of %+v: %v, %d, want %d", what, g, got, e, want)
	}
	if x != nil && !slices.Equal(all(x), before) {
		t.Errorf("%s: beside an error the index has become another", what)
	}
}

func wantHash(t *testing.T, key, size, want int) {
	t.Helper()
	if got := page.Hash(key, size); got != want {
		t.Errorf("Hash(%d, %d): %d, want %d", key, size, got, want)
	}
}

func wantLook(t *testing.T, what string, words []int, symbol int, kind int8, number, looked int) {
	t.Helper()
	if n, k := page.Look(words, symbol, kind); n != number || k != looked {
		t.Errorf("%s: Look(%v, %d, %d): %d, %d, want %d, %d", what, words, symbol, kind, n, k, number, looked)
	}
}

func wantDecide(t *testing.T, what string, words []int, subject, object, action int, want bool, read int) {
	t.Helper()
	if yes, n := page.Decide(words, subject, object, action); yes != want || n != read {
		t.Errorf("%s: Decide(%v, %d, %d, %d): %v, %d, want %v, %d", what, words, subject, object, action, yes, n, want, read)
	}
}

func wantRead(t *testing.T, what string, words []int, x *names.Index[string], version int, want api.Graph) {
	t.Helper()
	before := all(x)
	v, g, e := page.Read(words, x)
	if v != version || !sameGraph(g, want) || e != api.OK {
		t.Errorf("%s: Read of %v: %d, %+v, %d, want %d, %+v", what, words, v, g, e, version, want)
	}
	if !slices.Equal(all(x), before) {
		t.Errorf("%s: the index has become another", what)
	}
}

func wantNotRead(t *testing.T, what string, words []int, x *names.Index[string], want api.Errno) {
	t.Helper()
	if v, g, e := page.Read(words, x); v != 0 || !sameGraph(g, api.Graph{}) || e != want {
		t.Errorf("%s: Read of %v: %d, %+v, %d, want %d", what, words, v, g, e, want)
	}
}

func TestTheExamplesOfTheChapter(t *testing.T) {
	for key, want := range map[int]int{7: 1, 9: 7, 14: 2, 11: 5, -1: 1} {
		wantHash(t, key, 8, want)
	}
	for size, want := range map[int]int{3: 0, 0: 0, -2: 0} {
		wantHash(t, 5, size, want)
	}
	wantSize(t, "g", small(), 21)
	wantSize(t, "the zero graph", api.Graph{}, 8)

	x := names.NewIndex[string]()
	wantLaid(t, "g", 5, small(), x, laid(), "open ann door")

	wantLook(t, "ann, a subject", laid(), 2, 1, 1, 1)
	wantLook(t, "ann, an action", laid(), 2, 3, 0, 1)
	wantLook(t, "no kind", laid(), 2, 4, 0, 0)
	wantLook(t, "no whole table", laid()[:19], 2, 1, 0, 0)

	wantDecide(t, "g", laid(), 2, 3, 1, true, 9)
	wantDecide(t, "no action", laid(), 2, 3, 2, false, 6)
	wantDecide(t, "no subject", laid(), 3, 3, 1, false, 2)
	wantDecide(t, "no words", nil, 2, 3, 1, false, 0)
	wantDecide(t, "no mask", laid()[:20], 2, 3, 1, false, 8)

	wantRead(t, "g", laid(), x, 5, small())
	wantNotRead(t, "the word 20 as 2", with(laid(), "20=2"), x, api.ErrPage)
	wantNotRead(t, "word 5 as 1", with(laid(), "5=1"), x, api.ErrPage)
	wantNotRead(t, "an empty index", laid(), names.NewIndex[string](), api.ErrPage)

	wrong := small()
	wrong.Of = []int{2}
	wantRefused(t, "version 0", 0, small(), x, api.ErrRange)
	wantRefused(t, "no index", 5, small(), nil, api.ErrNil)
	wantRefused(t, "Of 2", 5, wrong, x, api.ErrPage)
	wantLaid(t, "the zero graph", 1, api.Graph{}, x, numbers("1 2 0 0 0 0 0 0"), "open ann door")
}

// The document's second and third example of the whole.
func TestTheExamplesOfTheWhole(t *testing.T) {
	g := graph.Compile(load(t, example))
	wantSize(t, "the document's policy", g, 72)
	words, e := page.Lay(1, g, names.NewIndex[string]())
	if len(words) != 72 || e != api.OK || !slices.Equal(words[:4], numbers("1 32 2 2")) || !slices.Equal(words[68:], numbers("1 0 0 0")) {
		t.Errorf("%v, %d", words, e)
	}
	keys := 0
	for place := range 32 {
		if words[4+2*place] != 0 {
			keys++
		}
	}
	if keys != 9 {
		t.Errorf("%d keys", keys)
	}
	p := load(t, "action open; subject ann; object door; allow ann on door: open;")
	wantSize(t, "SMALL", graph.Compile(p), 21)
}
