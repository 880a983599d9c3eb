package page_test

import (
	"math"
	"slices"
	"testing"

	"gatehouse/api"
	"gatehouse/names"
	"gatehouse/page"
)

// ask is a list of words with a table of 8 places in which the subject 2, the object 3 and the action 1 stand with these numbers, of so many columns, and what stands behind the table.
func ask(x, y, z, columns int, behind ...int) []int {
	words := laid()[:20]
	words[3], words[19], words[9], words[7] = columns, x, y, z
	return append(words, behind...)
}

func TestDecideWordByWord(t *testing.T) {
	whole := laid()
	// Read are: 1; 18, 19; 8, 9; 6, 7; 3; 20. What is cut off ends it there.
	for n, read := range []int{0, 0, 1, 1, 1, 1, 1, 1, 1, 1, 1, 1, 1, 1, 1, 1, 1, 1, 1, 2, 8, 9} {
		wantDecide(t, "cut off", whole[:n:n], 2, 3, 1, n == 21, read)
	}
	wantDecide(t, "cut off, with room behind it", whole[:20], 2, 3, 1, false, 8)
	wantDecide(t, "more words behind it", append(whole, 1, 2, 3), 2, 3, 1, true, 9)
	wantDecide(t, "no such subject", whole, 5, 3, 1, false, 2)
	wantDecide(t, "no such object", whole, 2, 2, 1, false, 4)
	wantDecide(t, "no such action", whole, 2, 3, 2, false, 6)
	wantDecide(t, "no such action: the third place that is looked at is empty", whole, 2, 3, 3, false, 8)
	wantDecide(t, "nothing that is there, and the second place is empty", whole, 0, 0, 0, false, 3)
	for _, head := range []string{"0=0", "0=-1", "2=0", "2=65", "2=-1"} {
		wantDecide(t, "the version and the rows do not matter", with(whole, head), 2, 3, 1, true, 9)
	}
}

// The search of the object runs into words that the list does not have.
func TestDecideInACutTable(t *testing.T) {
	words := []int{5, 8, 1, 1, 6, 1, 14, 1, 9, 1, 0, 0}
	wantDecide(t, "the subject's key lies behind the end", words, 2, 3, 1, false, 1)
	// The subject 1 has the key 5: of 8 places its search begins at 3.
	wantHash(t, 5, 8, 3)
	wantDecide(t, "an empty place", words, 1, 3, 1, false, 2)
	words[10] = 5
	wantDecide(t, "met, and then the object at the places 2, 3 and off the end", words, 1, 3, 1, false, 5)
	words = words[:11:11]
	wantDecide(t, "met, and its number is cut off", words, 1, 3, 1, false, 2)
	full := []int{5, 8, 1, 1, 1, 1, 1, 1, 1, 1, 1, 1}
	wantDecide(t, "goes on, and off the end", full, 1, 3, 1, false, 2)
}

func TestNoTable(t *testing.T) {
	for _, n := range []int{math.MinInt, -8, -2, -1, 0, 1, 3, 5, 6, 7, 9, 24, 4095, 4097, 8192, 1 << 32, 1 << 62, math.MaxInt} {
		words := laid()
		words[1] = n
		wantDecide(t, "no table of so many places", words, 2, 3, 1, false, 1)
		wantDecide(t, "two words", words[:2], 2, 3, 1, false, 1)
		wantDecide(t, "one word", words[:1], 2, 3, 1, false, 0)
	}
	for _, n := range []int{1, 3, 6, 4095, 4097, 8192, 16384} {
		words := slices.Concat([]int{1, n, 1, 1}, slices.Repeat([]int{0, 1}, n))
		wantDecide(t, "no table, though all places are there", words, 2, 3, 1, false, 1)
	}
	for n := 2; n <= 4096; n *= 2 {
		words := slices.Concat([]int{1, n, 1, 1}, slices.Repeat([]int{0, 1}, n))
		wantDecide(t, "an empty table", words, 2, 3, 1, false, 2)
		wantDecide(t, "two words", words[:2], 2, 3, 1, false, 1)
		words = slices.Concat([]int{1, n, 1, 1}, slices.Repeat([]int{77, 1}, n))
		wantDecide(t, "a table without an empty place", words, 2, 3, 1, false, 1+n)
	}
}

// A number of an action is asked last: the mask has been read by then.
func TestNumbersOfActions(t *testing.T) {
	for _, z := range []int{math.MinInt, math.MinInt + 1, -63, -1, 0, 17, 18, 32, 33, 63, 64, 65, 1 << 32, 1<<32 + 1, math.MaxInt} {
		for _, m := range []int{1, 65535, 65536, -1, math.MinInt, math.MaxInt} {
			wantDecide(t, "an action with no bit", ask(1, 1, z, 1, m), 2, 3, 1, false, 9)
		}
	}
	for z := 1; z <= 16; z++ {
		bit := 1 << (z - 1)
		wantDecide(t, "its bit alone", ask(1, 1, z, 1, bit), 2, 3, 1, true, 9)
		wantDecide(t, "all but its bit", ask(1, 1, z, 1, 65535-bit), 2, 3, 1, false, 9)
		wantDecide(t, "all bits", ask(1, 1, z, 1, -1), 2, 3, 1, true, 9)
		wantDecide(t, "below 0, all but its bit", ask(1, 1, z, 1, -1-bit), 2, 3, 1, false, 9)
		wantDecide(t, "below 0, its bit and the sign", ask(1, 1, z, 1, math.MinInt+bit), 2, 3, 1, true, 9)
		wantDecide(t, "bits above 15 alone", ask(1, 1, z, 1, 1<<62+65536), 2, 3, 1, false, 9)
		wantDecide(t, "no bit", ask(1, 1, z, 1, 0), 2, 3, 1, false, 9)
	}
}

// With these numbers the word is looked for at 20 + (x - 1) C + (y - 1), wherever that is.
func TestWordsOfMasks(t *testing.T) {
	for _, c := range []struct {
		what          string
		x, y, columns int
		want          bool
		read          int
	}{
		{"the first", 1, 1, 3, false, 9},
		{"the row 2, the column 2", 2, 2, 3, true, 9},
		{"the row 1, the column 5", 1, 5, 3, true, 9},
		{"the row 3, the column -1", 3, -1, 3, true, 9},
		{"no columns", 7, 5, 0, true, 9},
		{"columns below 0", -2, 2, -1, true, 9},
		{"the last word", 2, 3, 3, false, 9},
		{"behind it", 2, 4, 3, false, 8},
		{"the word 0 of the head", 1, -19, 3, true, 9},
		{"a word of the table", 1, -12, 3, true, 9},
		{"ahead of the list", 1, -20, 3, false, 8},
		{"far ahead", math.MinInt, 1, 1, false, 8},
		{"far behind", math.MaxInt, 1, 1, false, 8},
		{"a product that wraps round to 4", 1<<62 + 2, 1, 4, true, 9},
		{"a product that wraps round to 0", 1<<61 + 1, 5, 8, true, 9},
		{"a sum that wraps round", 2, math.MaxInt, 1, false, 8},
		{"a sum that wraps round to a word", math.MaxInt, math.MinInt + 7, 1, true, 9},
	} {
		words := ask(c.x, c.y, 1, c.columns, 0, 0, 0, 0, 1, 0)
		wantDecide(t, c.what, words, 2, 3, 1, c.want, c.read)
	}
}

func TestSixteenActions(t *testing.T) {
	for k := range 16 {
		g := api.Graph{Actions: numbered("a", 16), Subjects: []string{"s"}, Objects: []string{"o"}, Of: []int{1}, On: []int{1}, Masks: [][]uint16{{1 << k}}}
		x := names.NewIndex[string]()
		words, e := page.Lay(1, g, x)
		if e != api.OK {
			t.Fatal(e)
		}
		for i := range 16 {
			if yes, _ := page.Decide(words, 17, 18, i+1); yes != (i == k) {
				t.Errorf("bit %d: the action %d: %v", k, i, yes)
			}
		}
		wantRead(t, "a bit", words, x, 1, g)
	}
}
