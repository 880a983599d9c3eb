package cells_test

import (
	"math"
	"slices"
	"testing"

	"gatehouse/api"
)

// 14.4

// within says in the plainest words whether a piece lies within: its words are there, and where there are none it begins at a word or behind the last one.
func within(words, addr, n int) bool {
	if addr < 0 || n < 0 || addr > words || n > words {
		return false
	}
	return addr+n <= words
}

// nearAndFar are numbers for addr and n.
func nearAndFar(words int) []int {
	l := []int{math.MinInt, math.MinInt + 1, math.MinInt + words, api.Poison, -1 << 32, -words - 1, -words, 1 << 31, 1 << 32, 1<<32 + 1, 1 << 62, math.MaxInt - words - 1, math.MaxInt - words, math.MaxInt - words + 1, math.MaxInt - 1, math.MaxInt}
	for n := -3; n <= words+3; n++ {
		l = append(l, n)
	}
	return l
}

func TestEachPieceOfSmallMemories(t *testing.T) {
	for words := 1; words <= 6; words++ {
		for _, addr := range nearAndFar(words) {
			for _, n := range nearAndFar(words) {
				checkPiece(t, words, addr, n)
			}
		}
	}
}

func checkPiece(t *testing.T, words, addr, n int) {
	t.Helper()
	var before []int
	for i := range words {
		before = append(before, i+40)
	}
	m := memory(t, before...)
	trace := m.Trace()
	poisoned, cleared, piece, code := slices.Clone(before), slices.Clone(before), []int(nil), api.ErrAddress
	if within(words, addr, n) {
		code, piece = api.OK, slices.Clone(before[addr:addr+n])
		for i := addr; i < addr+n; i++ {
			poisoned[i], cleared[i] = api.Poison, 0
		}
	}
	wantPiece(t, m, addr, n, code, piece...)
	wantWords(t, m, before...)
	wantPoison(t, m, addr, n, code)
	wantWords(t, m, poisoned...)
	if code == api.OK {
		wantPiece(t, m, addr, n, api.OK, slices.Repeat([]int{api.Poison}, n)...)
	}
	wantClear(t, m, addr, n, code)
	wantWords(t, m, cleared...)
	wantTrace(t, m, trace...)
	wantBad(t, m, 0)
}

func TestAPieceOfNoWords(t *testing.T) {
	m := memory(t, 1, 2, 3)
	for addr := range 4 {
		wantPiece(t, m, addr, 0, api.OK)
		wantPoison(t, m, addr, 0, api.OK)
		wantClear(t, m, addr, 0, api.OK)
	}
	for _, addr := range []int{-1, 4, 5, math.MinInt, math.MaxInt} {
		wantPiece(t, m, addr, 0, api.ErrAddress)
		wantPoison(t, m, addr, 0, api.ErrAddress)
		wantClear(t, m, addr, 0, api.ErrAddress)
	}
	wantWords(t, m, 1, 2, 3)
	wantBad(t, m, 0)
}

// addr and n whose sum passes the greatest int, and comes out small.
func TestASumThatPassesTheGreatestInt(t *testing.T) {
	m := memory(t, 1, 2, 3, 4)
	for _, c := range [][2]int{
		{1, math.MaxInt}, {4, math.MaxInt}, {math.MaxInt, 1}, {math.MaxInt, 4}, {math.MaxInt, math.MaxInt}, {math.MaxInt - 1, 3}, {1 << 62, 1 << 62}, {3, math.MaxInt - 2},
		{math.MinInt, math.MinInt}, {math.MinInt, math.MaxInt}, {math.MaxInt, math.MinInt}, {math.MinInt + 1, math.MaxInt}, {2, math.MinInt}, {2, -1}, {2, -2}, {-2, 4}, {-1, 1}, {-1, 0}, {0, math.MinInt},
		{math.MinInt, 0}, {0, math.MaxInt}, {math.MaxInt, 0},
	} {
		wantPiece(t, m, c[0], c[1], api.ErrAddress)
		wantPoison(t, m, c[0], c[1], api.ErrAddress)
		wantClear(t, m, c[0], c[1], api.ErrAddress)
	}
	wantWords(t, m, 1, 2, 3, 4)
	if n := len(m.Trace()); n != 4 {
		t.Errorf("%d entries", n)
	}
	wantBad(t, m, 0)
}

// The three go over words that are poisoned, too, and do not stop there.
func TestPiecesWithPoisonedWords(t *testing.T) {
	m := memory(t, 1, 2, 3, 4, 5)
	wantPoison(t, m, 1, 2, api.OK)
	wantPiece(t, m, 0, 4, api.OK, 1, api.Poison, api.Poison, 4)
	wantPoison(t, m, 2, 2, api.OK)
	wantPoison(t, m, 1, 1, api.OK)
	wantWords(t, m, 1, api.Poison, api.Poison, api.Poison, 5)
	wantClear(t, m, 0, 3, api.OK)
	wantWords(t, m, 0, 0, 0, api.Poison, 5)
	wantClear(t, m, 2, 1, api.OK)
	wantWords(t, m, 0, 0, 0, api.Poison, 5)
	wantStore(t, m, 4, api.Poison, api.OK)
	wantPiece(t, m, 3, 2, api.OK, api.Poison, api.Poison)
	wantClear(t, m, 3, 2, api.OK)
	wantWords(t, m, 0, 0, 0, 0, 0)
	wantBad(t, m, 0)
	wantLoad(t, m, 3, 0, api.OK)
	wantAdd(t, m, 4, 6, 0, api.OK)
	wantWords(t, m, 0, 0, 0, 0, 6)
}

// Words tells what stands there now, whoever put it there.
func TestWordsAsTheyAre(t *testing.T) {
	m := fresh(t, 3)
	wantPiece(t, m, 1, 2, api.OK, 0, 0)
	m.Store(1, math.MinInt)
	wantPiece(t, m, 1, 2, api.OK, math.MinInt, 0)
	m.Swap(2, 0, math.MaxInt)
	wantPiece(t, m, 1, 2, api.OK, math.MinInt, math.MaxInt)
	m.Swap(2, 0, 5)
	wantPiece(t, m, 2, 1, api.OK, math.MaxInt)
	m.Add(1, -1)
	wantPiece(t, m, 1, 1, api.OK, math.MaxInt)
	m.Add(3, -1)
	m.Store(-1, 4)
	wantPiece(t, m, 0, 3, api.OK, 0, math.MaxInt, math.MaxInt)
}

// Beside an error there is no list.
func TestNoWordsBesideAnError(t *testing.T) {
	m := memory(t, 1, 2)
	for _, c := range [][2]int{{0, 3}, {1, 2}, {2, 1}, {-1, 1}, {0, -1}, {3, 0}} {
		if l, e := m.Words(c[0], c[1]); len(l) != 0 || e != api.ErrAddress {
			t.Errorf("Words(%d, %d) = %v, %v", c[0], c[1], l, e)
		}
	}
}
