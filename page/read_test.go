package page_test

import (
	"math"
	"slices"
	"strconv"
	"strings"
	"testing"

	"gatehouse/api"
	"gatehouse/names"
	"gatehouse/page"
)

// hand is a page by hand: its head; its keys with their numbers, "7=1 9=1", put in this order; its masks.
func hand(head, keys, masks string) []int {
	words := numbers(head)
	places := words[1]
	words = append(words, make([]int, 2*places)...)
	for _, text := range strings.Fields(keys) {
		key, number, _ := strings.Cut(text, "=")
		place := slowHash(numbers(key)[0], places)
		for words[4+2*place] != 0 {
			place = (place + 1) % places
		}
		words[4+2*place], words[5+2*place] = numbers(key)[0], numbers(number)[0]
	}
	return append(words, numbers(masks)...)
}

const (
	sevenNames = "x y a b c o p"
	sevenHead  = "2 16 3 2"
	sevenKeys  = "7=1 11=2 13=1 17=2 21=3 26=1 30=2"
	sevenMasks = "1 2 3 0 0 1"
)

// seven is a page of seven names.
func seven() []int { return hand(sevenHead, sevenKeys, sevenMasks) }

func sevenGraph() api.Graph {
	return made("x y", "a b c", "o p", "1 2 3", "1 2", "1 2", "3 0", "0 1")
}

func TestReadByHand(t *testing.T) {
	x := index(sevenNames + " z")
	wantRead(t, "seven names", seven(), x, 2, sevenGraph())
	wantRead(t, "no names", numbers("7 2 0 0 0 0 0 0"), x, 7, api.Graph{})
	wantRead(t, "no names, no index", numbers("7 2 0 0 0 0 0 0"), names.NewIndex[string](), 7, api.Graph{})
	wantRead(t, "the last version", with(seven(), "0="+strconv.Itoa(api.MaxVersion)), x, api.MaxVersion, sevenGraph())
	wantRead(t, "one name, three things", hand("1 8 1 1", "7=1 5=1 6=1", "1"), x, 1, made("x", "x", "x", "1", "1", "1"))
	wantRead(t, "subjects alone", hand("1 4 1 0", "5=1 9=1", ""), x, 1, made("", "x y", "", "1 1", "", ""))
	wantRead(t, "objects alone", hand("1 4 0 1", "6=1 10=1", ""), x, 1, made("", "", "x y", "", "1 1"))
	wantRead(t, "actions alone", hand("1 4 0 0", "7=2 11=1", ""), x, 1, made("y x", "", "", "", ""))
	wantRead(t, "keys that were put in another order", hand(sevenHead, "30=2 26=1 21=3 17=2 13=1 11=2 7=1", sevenMasks), x, 2, sevenGraph())
	for _, keys := range []string{"5=1 9=1 13=1 17=1", "17=1 13=1 9=1 5=1", "9=1 17=1 13=1 5=1"} {
		wantRead(t, "keys that meet, in any order", hand("1 8 1 0", keys, ""), x, 1, made("", "x y a b", "", "1 1 1 1", "", ""))
	}
}

// Actions stand by their numbers, subjects and objects by their symbols, classes by their first ones.
func TestTheOrderOfWhatIsRead(t *testing.T) {
	x := index(sevenNames)
	wantRead(t, "actions the other way round", hand(sevenHead, "7=2 11=1 13=1 17=2 21=3 26=1 30=2", sevenMasks), x, 2,
		made("y x", "a b c", "o p", "1 2 3", "1 2", "1 2", "3 0", "0 1"))
	wantRead(t, "rows the other way round", hand(sevenHead, "7=1 11=2 13=3 17=2 21=1 26=1 30=2", sevenMasks), x, 2,
		made("x y", "a b c", "o p", "1 2 3", "1 2", "0 1", "3 0", "1 2"))
	wantRead(t, "rows in a ring", hand(sevenHead, "7=1 11=2 13=2 17=3 21=1 26=1 30=2", sevenMasks), x, 2,
		made("x y", "a b c", "o p", "1 2 3", "1 2", "3 0", "0 1", "1 2"))
	wantRead(t, "columns the other way round", hand(sevenHead, "7=1 11=2 13=1 17=2 21=3 26=2 30=1", sevenMasks), x, 2,
		made("x y", "a b c", "o p", "1 2 3", "1 2", "2 1", "0 3", "1 0"))
	wantRead(t, "both", hand(sevenHead, "7=1 11=2 13=2 17=3 21=1 26=2 30=1", sevenMasks), x, 2,
		made("x y", "a b c", "o p", "1 2 3", "1 2", "0 3", "1 0", "2 1"))
	wantRead(t, "classes of several", hand("1 16 2 1", "7=1 9=2 13=1 17=2 21=1 26=1", "1 0"), index(sevenNames), 1,
		made("x", "y a b c", "o", "1 2 1 2", "1", "0", "1"))
	// As the index has it, not as the graph had it.
	g := made("x", "a b", "o p", "1 2", "1 2", "1 0", "0 0")
	x = index("p b a o x")
	words, _ := page.Lay(4, g, x)
	wantRead(t, "symbols in another order", words, x, 4, made("x", "b a", "p o", "1 2", "1 2", "0 0", "0 1"))
}

func TestHeadsThatAreNotWellLaid(t *testing.T) {
	x := index(sevenNames + " z")
	for n := range 42 {
		wantNotRead(t, "cut off", seven()[:n], x, api.ErrPage)
	}
	wantNotRead(t, "one word too long", append(seven(), 0), x, api.ErrPage)
	wantNotRead(t, "no words", nil, x, api.ErrPage)
	wantNotRead(t, "three words", numbers("1 2 0"), x, api.ErrPage)
	wantNotRead(t, "a head alone", numbers("1 2 0 0"), x, api.ErrPage)
	for _, n := range []int{math.MinInt, -1, 0, api.MaxVersion + 1, 1<<32 + 1, math.MaxInt} {
		wantNotRead(t, "no version", with(seven(), "0="+strconv.Itoa(n)), x, api.ErrPage)
	}
	for _, n := range []int{math.MinInt, -16, -1, 0, 1, 2, 4, 8, 15, 17, 24, 32, 4096, 8192, 1 << 32, 1 << 61, 1<<61 + 16, 1 << 62, math.MaxInt} {
		words := seven()
		words[1] = n
		wantNotRead(t, "another table", words, x, api.ErrPage)
		if n >= 0 && n <= 8192 {
			for _, rest := range []int{-1, 0, 6, 7} { // as long as it says, more or less
				wantNotRead(t, "another table", slices.Concat(words[:4], make([]int, 2*n+rest+1)), x, api.ErrPage)
			}
		}
	}
	for _, n := range []int{math.MinInt, -3, -2, -1, 0, 1, 2, 4, 6, 64, 65, 1 << 32, math.MaxInt} {
		if n != 3 {
			words := seven()
			words[2] = n
			wantNotRead(t, "other rows", words, x, api.ErrPage)
		}
		if n != 2 {
			words := seven()
			words[3] = n
			wantNotRead(t, "other columns", words, x, api.ErrPage)
		}
	}
	wantNotRead(t, "rows and columns changed about", with(seven(), "2=2 3=3"), x, api.ErrPage)
	wantNotRead(t, "rows and columns below 0", with(seven(), "2=-3 3=-2"), x, api.ErrPage)
	wantNotRead(t, "no index", seven(), nil, api.ErrNil)
	wantNotRead(t, "no index, no words", nil, nil, api.ErrNil)
}

// T must be the least one: twice as much, or half as much, would be a table too.
func TestTablesOfAnotherSize(t *testing.T) {
	x := index(sevenNames + " z")
	for _, c := range []struct {
		keys   string
		places int
	}{{"", 2}, {"5=1", 2}, {"5=1 9=1", 4}, {"5=1 9=1 13=1", 8}, {"5=1 9=1 13=1 17=1", 8}, {"5=1 9=1 13=1 17=1 21=1", 16}} {
		row := strconv.Itoa(min(1, len(c.keys)))
		for places := 2; places <= 4096; places *= 2 {
			if places < len(strings.Fields(c.keys)) {
				continue
			}
			words := hand("1 "+strconv.Itoa(places)+" "+row+" 0", c.keys, "")
			_, _, e := page.Read(words, x)
			if (e == api.OK) != (places == c.places) {
				t.Errorf("%q in %d places: %d", c.keys, places, e)
			}
		}
	}
}

func TestTablesThatAreNotWellLaid(t *testing.T) {
	x := index(sevenNames + " z")
	// The places: 1 7, 2 30, 3 21, 6 26, 7 17, 11 13, 13 11; the place i has the words 4 + 2 i and 5 + 2 i.
	for _, c := range []struct{ what, change string }{
		{"a number beside an empty place", "5=1"},
		{"a number beside an empty place", "35=-1"},
		{"a key that has no name", "6=39"},
		{"a key below 0", "4=-9 5=1"},
		{"a key below 0 at its place", "18=-9 19=1"},
		{"the symbol 0", "18=1 19=1"},
		{"the symbol 0, and no number", "18=1"},
		{"a key without a kind", "20=8 21=1"},
		{"a key without a kind", "20=24 21=1"},
		{"a key that is not met: the place ahead is empty", "30=0 31=0 32=11 33=2"},
		{"a key where its search does not begin", "4=17 5=2 18=0 19=0"},
		{"a key behind an empty place", "18=0 19=0 22=17 23=2"},
		{"a key that stands twice", "20=17 21=2"},
		{"a key that stands twice, far away", "34=17 35=2"},
		{"an empty place on the way", "6=0 7=0"},
		{"a key with no number", "19=0"},
		{"a key with no number", "7=0"},
		{"no key beside the number", "18=0"},
		{"the poison", "18=" + strconv.Itoa(api.Poison)},
		{"the poison as a number", "19=" + strconv.Itoa(api.Poison)},
	} {
		wantNotRead(t, c.what, with(seven(), c.change), x, api.ErrPage)
	}
	// Two keys with one place: the second must not stand there when the first is gone.
	two := hand("1 8 1 0", "5=1 13=1 9=1", "")
	wantRead(t, "two with one place", two, x, 1, made("", "x y a", "", "1 1 1", "", ""))
	wantNotRead(t, "the first is gone to another place", with(two, "10=0 11=0 4=5 5=1"), x, api.ErrPage)
	full := hand("1 4 1 0", "5=1 9=1 13=1 17=1", "")
	wantNotRead(t, "a table with no empty place", full, x, api.ErrPage)
	all := slices.Concat([]int{1, 4096, 1, 0}, slices.Repeat([]int{5, 1}, 4096))
	wantNotRead(t, "one key at each place", all, x, api.ErrPage)
}

// The symbols are the index's: fewer names, no page.
func TestAnotherIndex(t *testing.T) {
	x := names.NewIndex[string]()
	for _, name := range strings.Fields(sevenNames) {
		wantNotRead(t, "names are missing", seven(), x, api.ErrPage)
		x.Of(name)
	}
	wantRead(t, "all are there", seven(), x, 2, sevenGraph())
	other := sevenGraph()
	other.Actions, other.Subjects, other.Objects = []string{"1", "2"}, []string{"3", "4", "5"}, []string{"6", "7"}
	wantRead(t, "other names", seven(), index("1 2 3 4 5 6 7 8"), 2, other)
}

func TestNumbersThatAreNotWellLaid(t *testing.T) {
	x := index(sevenNames + " z")
	for _, c := range []struct{ what, keys string }{
		{"actions from 0 on", "7=0 11=1 13=1 17=2 21=3 26=1 30=2"},
		{"actions from 2 on", "7=2 11=3 13=1 17=2 21=3 26=1 30=2"},
		{"actions that leap", "7=1 11=3 13=1 17=2 21=3 26=1 30=2"},
		{"one action's number twice", "7=1 11=1 13=1 17=2 21=3 26=1 30=2"},
		{"an action below 0", "7=1 11=-2 13=1 17=2 21=3 26=1 30=2"},
		{"a class above R", "7=1 11=2 13=1 17=2 21=4 26=1 30=2"},
		{"a class far above R", "7=1 11=2 13=1 17=2 21=9223372036854775807 26=1 30=2"},
		{"a class that is nobody's", "7=1 11=2 13=1 17=3 21=3 26=1 30=2"},
		{"another one", "7=1 11=2 13=1 17=2 21=2 26=1 30=2"},
		{"the class 0", "7=1 11=2 13=1 17=0 21=3 26=1 30=2"},
		{"a class below 0", "7=1 11=2 13=1 17=-1 21=3 26=1 30=2"},
		{"a class above C", "7=1 11=2 13=1 17=2 21=3 26=1 30=3"},
		{"an object's class that is nobody's", "7=1 11=2 13=1 17=2 21=3 26=1 30=1"},
		{"another one", "7=1 11=2 13=1 17=2 21=3 26=2 30=2"},
		{"an object's class 0", "7=1 11=2 13=1 17=2 21=3 26=0 30=2"},
		{"an object's class below 0", "7=1 11=2 13=1 17=2 21=3 26=1 30=-2"},
		{"an object that is a subject", "7=1 11=2 13=1 17=2 21=3 26=1 29=2"},
		{"a subject that is an action", "7=1 11=2 13=1 17=2 23=3 26=1 30=2"},
	} {
		wantNotRead(t, c.what, hand(sevenHead, c.keys, sevenMasks), x, api.ErrPage)
	}
	wantNotRead(t, "rows and no subjects", hand("1 2 1 0", "", ""), x, api.ErrPage)
	wantNotRead(t, "columns and no objects", hand("1 2 0 1", "", ""), x, api.ErrPage)
	wantNotRead(t, "a subject and no rows", hand("1 2 0 0", "5=1", ""), x, api.ErrPage)
	wantNotRead(t, "a subject of no class", hand("1 2 0 0", "5=0", ""), x, api.ErrPage)
	wantNotRead(t, "an object and no columns", hand("1 2 0 0", "6=1", ""), x, api.ErrPage)
	wantNotRead(t, "an action with a class", hand("1 2 0 0", "7=2", ""), x, api.ErrPage)
}

func TestMasksThatAreNotWellLaid(t *testing.T) {
	x := index(sevenNames + " z")
	for _, mask := range []int{math.MinInt, -65536, -65535, -4, -1, 4, 5, 8, 32768, 65535, 65536, 65537, 65538, 1<<32 + 1, 1 << 62, math.MaxInt, api.Poison} {
		for at := 36; at < 42; at++ {
			words := seven()
			words[at] = mask
			wantNotRead(t, "no mask of two actions", words, x, api.ErrPage)
		}
	}
	for masks, want := range map[string]bool{
		"1 2 3 0 0 1": true, "1 2 3 0 3 1": true, "3 3 3 0 0 1": true, "0 0 3 0 0 1": true,
		"1 2 1 2 0 1": false, "0 1 3 0 0 1": false, "1 2 3 0 3 0": false, "0 0 0 0 0 0": false,
		"1 1 3 3 0 0": false, "1 1 2 2 3 3": false, "1 1 2 2 3 2": true,
	} {
		_, g, e := page.Read(hand(sevenHead, sevenKeys, masks), x)
		if (e == api.OK) != want || !want && !sameGraph(g, api.Graph{}) {
			t.Errorf("%s: %+v, %d", masks, g, e)
		}
	}
	wantNotRead(t, "two columns without rows", hand("1 4 0 2", "6=1 10=2", ""), x, api.ErrPage)
	wantNotRead(t, "two rows without columns", hand("1 4 2 0", "5=1 9=2", ""), x, api.ErrPage)
	wantNotRead(t, "a bit and no actions", hand("1 4 1 1", "5=1 10=1", "1"), x, api.ErrPage)
	wantRead(t, "no bit and no actions", hand("1 4 1 1", "5=1 10=1", "0"), x, 1, made("", "x", "y", "1", "1", "0"))
}

// manyKeys are the keys of so many symbols, from 1 on; each number is the symbol.
func manyKeys(n, kind int) string {
	keys := ""
	for i := 1; i <= n; i++ {
		keys += " " + strconv.Itoa(4*i+kind) + "=" + strconv.Itoa(i)
	}
	return keys
}

// oneClass has the same keys, each with the number 1.
func oneClass(n, kind int) string {
	keys := ""
	for i := 1; i <= n; i++ {
		keys += " " + strconv.Itoa(4*i+kind) + "=1"
	}
	return keys
}

func TestAsManyAsMayBe(t *testing.T) {
	x := names.NewIndex[string]()
	for _, name := range numbered("n", 70) {
		x.Of(name)
	}
	for _, c := range []struct {
		what, head, keys string
		want             bool
	}{
		{"16 actions", "1 32 0 0", manyKeys(16, 3), true},
		{"17 actions", "1 64 0 0", manyKeys(17, 3), false},
		{"64 subjects", "1 128 1 0", oneClass(64, 1), true},
		{"65 subjects", "1 256 1 0", oneClass(65, 1), false},
		{"64 objects", "1 128 0 1", oneClass(64, 2), true},
		{"65 objects", "1 256 0 1", oneClass(65, 2), false},
		{"65 classes of subjects", "1 256 65 0", manyKeys(65, 1), false},
		{"65 classes of objects", "1 256 0 65", manyKeys(65, 2), false},
		{"R 65, and no columns", "1 128 65 0", oneClass(64, 1), false},
	} {
		_, g, e := page.Read(hand(c.head, c.keys, ""), x)
		if (e == api.OK) != c.want {
			t.Errorf("%s: %+v, %d", c.what, g, e)
		}
	}
	great, x := greatGraph(), names.NewIndex[string]()
	words, e := page.Lay(1, great, x)
	if len(words) != 4+2*512+64*64 || e != api.OK {
		t.Fatalf("%d words, %d", len(words), e)
	}
	wantRead(t, "as much as may be", words, x, 1, great)
	// The 17th action would have the bit 16.
	words = hand("1 64 1 1", manyKeys(17, 3)+" 5=1 6=1", "1")
	wantNotRead(t, "17 actions, and a mask of one", words, x, api.ErrPage)
	words = hand("1 64 1 1", manyKeys(16, 3)+" 5=1 6=1", "65535")
	if v, g, e := page.Read(words, x); v != 1 || e != api.OK || g.Masks[0][0] != 65535 {
		t.Errorf("16 actions, all of them: %d, %+v, %d", v, g, e)
	}
	wantNotRead(t, "16 actions and a bit more", with(words, strconv.Itoa(len(words)-1)+"=65536"), x, api.ErrPage)
}
