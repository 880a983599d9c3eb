package page_test

import (
	"math"
	"slices"
	"testing"

	"gatehouse/page"
)

// table is a list of words with a table of these keys and numbers, "9 1 0 0", and nothing behind it.
func table(text string) []int {
	places := numbers(text)
	return slices.Concat([]int{1, len(places) / 2, 0, 0}, places)
}

// Of 4 places the keys 5, 9, 13 .. begin at the places 3, 3, 3: 40503 is 3 mod 4.
func TestSearchesThatGoOn(t *testing.T) {
	for _, key := range []int{5, 9, 13, 17} {
		wantHash(t, key, 4, 3)
	}
	full := table("9 2 13 3 17 4 5 1")
	wantLook(t, "at its place", full, 1, 1, 1, 1)
	wantLook(t, "round the end", full, 2, 1, 2, 2)
	wantLook(t, "round the end, and on", full, 3, 1, 3, 3)
	wantLook(t, "the last place of all", full, 4, 1, 4, 4)
	wantLook(t, "none is empty, and the key is not there", full, 5, 1, 0, 4)
	wantLook(t, "none is empty, another beginning", full, 5, 2, 0, 4)

	gap := table("9 2 0 0 17 4 5 1")
	wantLook(t, "behind an empty place", gap, 4, 1, 0, 3)
	wantLook(t, "ahead of it", gap, 2, 1, 2, 2)
	wantLook(t, "another kind, the first place empty", table("0 0 0 0 0 0 0 0"), 1, 1, 0, 1)
	wantLook(t, "a number beside an empty place", table("0 7 0 7 0 7 0 7"), 1, 1, 0, 1)
	wantLook(t, "a key that stands twice", table("5 2 5 3 0 0 5 9"), 1, 1, 9, 1)
	wantLook(t, "a key that stands twice, none at its place", table("5 2 5 3 0 0 9 9"), 1, 1, 2, 2)
	wantLook(t, "ahead of where the search begins", table("0 0 0 0 5 1 0 0"), 1, 1, 0, 1)
	wantLook(t, "no number beside the key", table("0 0 0 0 0 0 5 0"), 1, 1, 0, 1)
	wantLook(t, "a number below 0", table("0 0 0 0 0 0 5 -7"), 1, 1, -7, 1)
	wantLook(t, "the least number", table("0 0 0 0 0 0 5 -9223372036854775808"), 1, 1, math.MinInt, 1)
}

func TestKinds(t *testing.T) {
	words := table("1 11 2 12 3 13 5 1")
	for kind := math.MinInt8; kind <= math.MaxInt8; kind++ {
		number, looked := page.Look(words, 0, int8(kind))
		switch {
		case kind < 1 || kind > 3:
			if number != 0 || looked != 0 {
				t.Errorf("kind %d: %d, %d", kind, number, looked)
			}
		case number != 10+kind:
			t.Errorf("kind %d: %d, %d", kind, number, looked)
		}
	}
	// A kind that is none is not reckoned into a key that is there.
	wantLook(t, "4 * 1 + 5 is ann's key", laid(), 1, 5, 0, 0)
	wantLook(t, "4 * 3 - 3 is ann's key", laid(), 3, -3, 0, 0)
	wantLook(t, "kind 0, an empty place", laid(), 0, 0, 0, 0)
}

// Keys below 0, and products that pass the greatest number.
func TestSymbolsOfAnyKind(t *testing.T) {
	wantLook(t, "the key -3", table("-3 7 0 0 0 0 0 0"), -1, 1, 0, 1)
	for _, c := range []struct{ symbol, key int }{{-1, -3}, {-2, -7}, {math.MinInt / 4, math.MinInt + 1}, {math.MaxInt/4 + 1, math.MinInt + 1}, {1<<62 + 2, 9}, {-1 << 62, 1}, {math.MaxInt, -3}, {math.MinInt, 1}} {
		words := table("0 0 0 0 0 0 0 0")
		place := slowHash(c.key, 4)
		words[4+2*place], words[5+2*place] = c.key, 77
		wantLook(t, "a key that is there", words, c.symbol, 1, 77, 1)
		wantLook(t, "one that is not there", table("0 5 0 5 0 5 0 5"), c.symbol, 1, 0, 1)
	}
}

func TestListsWithoutATable(t *testing.T) {
	whole := slices.Concat([]int{1, 2, 0, 0}, slices.Repeat([]int{9, 1}, 9000))
	for n := range 8 {
		wantLook(t, "cut off", whole[:n:n], 2, 1, 0, 0)
	}
	wantLook(t, "not cut off", whole[:8], 2, 1, 1, 1)
	wantLook(t, "with more behind it", whole, 2, 1, 1, 1)
	places := func(n int) []int { return slices.Concat([]int{1, n}, whole[2:]) }
	for _, n := range []int{math.MinInt, math.MinInt + 2, -4096, -8, -4, -2, -1, 0, 1, 3, 5, 6, 7, 9, 12, 15, 24, 48, 100, 2047, 2049, 4095, 4097, 6000, 8192, 1 << 32, 1<<32 + 2, 1 << 61, 1 << 62, 1<<62 + 2, math.MaxInt} {
		wantLook(t, "no table of so many places", places(n), 2, 1, 0, 0)
	}
	for n := 2; n <= 4096; n *= 2 {
		wantLook(t, "a table of so many places", places(n), 2, 1, 1, 1)
		wantLook(t, "one word short", places(n)[:4+2*n-1], 2, 1, 0, 0)
		wantLook(t, "no word short", places(n)[:4+2*n], 2, 1, 1, 1)
		wantLook(t, "no word short, and all are gone through", places(n)[:4+2*n], 3, 1, 0, n)
	}
}

// What the other words of the head say does not matter.
func TestLookAsksForTheTableAlone(t *testing.T) {
	for _, n := range []int{math.MinInt, -1, 0, 1, 65, math.MaxInt} {
		words := laid()
		words[0], words[2], words[3], words[20] = n, n, n, n
		wantLook(t, "ann", words, 2, 1, 1, 1)
		wantLook(t, "without masks", words[:20], 2, 1, 1, 1)
	}
}
