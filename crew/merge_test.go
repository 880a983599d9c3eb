package crew_test

import (
	"fmt"
	"math"
	"slices"
	"testing"

	"gatehouse/crew"
)

// 26.4 and, of parts, 26.5.

// merged is Merge once more: what is left of each part is a list that gets shorter.
func merged(parts [][]int, turns []int) []int {
	if len(parts) > 64 {
		return nil
	}
	left := slices.Clone(parts)
	var l []int
	for _, turn := range turns {
		for i := range left {
			if i == turn && len(left[i]) > 0 {
				l = append(l, left[i][0])
				left[i] = left[i][1:]
			}
		}
	}
	return l
}

func wantMerged(t *testing.T, parts [][]int, turns []int) {
	t.Helper()
	wantNumbers(t, fmt.Sprintf("Merge(%v; %v)", parts, turns), crew.Merge(parts, turns), merged(parts, turns))
}

func TestMergeOfShortLists(t *testing.T) {
	turns := lists([]int{-1, 0, 1, 2}, 4)
	for _, parts := range [][][]int{nil, {}, {nil}, {{}, {1}}, {{1}, {}}, {{1}, {2}}, {{1, 2}}, {{1, 2}, {3}}, {{1}, {2, 3}}, {{5, 5, 5}, {5, 5}}, {{1, 2, 3, 4, 5}, {6, 7, 8, 9, 10}, {11}}} {
		for _, l := range turns {
			wantMerged(t, parts, l)
		}
	}
}

func TestTurnsThatTakeNothing(t *testing.T) {
	parts := [][]int{{1, 2}, nil, {3}}
	for _, turn := range []int{-1, 3, 4, 64, math.MinInt, math.MinInt + 1, math.MaxInt, -2, 1 << 32, -1 << 32, 1} {
		for n := range 5 {
			wantNumbers(t, fmt.Sprintf("%d turns of %d", n, turn), crew.Merge(parts, slices.Repeat([]int{turn}, n)), nil)
		}
		wantNumbers(t, fmt.Sprintf("turns of %d between others", turn), crew.Merge(parts, []int{turn, 0, turn, 2, turn, turn, 2, 0, turn, 0}), []int{1, 3, 2})
	}
}

func TestTurnsOfAPartThatHasNoneLeft(t *testing.T) {
	for n := range 10 {
		wantNumbers(t, fmt.Sprintf("%d turns", n), crew.Merge([][]int{{1, 2, 3}}, make([]int, n)), []int{1, 2, 3}[:min(n, 3)])
	}
	wantNumbers(t, "turns behind the end", crew.Merge([][]int{{1}, {2, 3}}, []int{0, 0, 0, 1, 0, 1, 1, 0, 1}), []int{1, 2, 3})
}

// What no turn takes is not in the answer, and nobody waits for it.
func TestPartsThatNobodyEmpties(t *testing.T) {
	long := slices.Repeat([]int{7}, 10000)
	parts := slices.Repeat([][]int{long}, 64)
	wantNumbers(t, "no turns", crew.Merge(parts, nil), nil)
	wantNumbers(t, "turns of no part", crew.Merge(parts, []int{-1, 64}), nil)
	wantNumbers(t, "one turn", crew.Merge(parts, []int{63}), []int{7})
	wantNumbers(t, "three turns", crew.Merge(parts, []int{5, 5, 9}), []int{7, 7, 7})
	wantNumbers(t, "all but one", crew.Merge([][]int{long, {8}}, make([]int, 9999)), long[1:])
}

func TestTheMostParts(t *testing.T) {
	for n := range 70 {
		var parts [][]int
		var turns, want []int
		for i := range n {
			parts = append(parts, []int{i, 1000 + i})
			turns = append(turns, n-1-i)
			want = append(want, n-1-i)
		}
		turns = append(turns, 0, n)
		if n > 0 {
			want = append(want, 1000)
		}
		if n > 64 {
			want = nil
		}
		wantNumbers(t, fmt.Sprintf("Merge of %d parts", n), crew.Merge(parts, turns), want)
		wantNumbers(t, fmt.Sprintf("Merge of %d parts without numbers", n), crew.Merge(make([][]int, n), turns), nil)
	}
	wantNumbers(t, "Merge of a million parts", crew.Merge(make([][]int, 1000000), []int{0}), nil)
}

func TestNumbersAsTheyAre(t *testing.T) {
	ends := []int{math.MinInt, -1, 0, 1, math.MaxInt, 0, 0}
	wantNumbers(t, "both ends of int, and zeros", crew.Merge([][]int{ends}, make([]int, 9)), ends)
}

func drawnParts(d *dice) [][]int {
	var parts [][]int
	for range d.throw(of(d, []int{3, 6, 67})) {
		parts = append(parts, drawnList(d, 8))
	}
	return parts
}

func drawnTurns(d *dice, parts int) []int {
	var turns []int
	for range d.throw(60) {
		turns = append(turns, d.throw(parts+3)-1)
	}
	return turns
}

func TestDrawnMerges(t *testing.T) {
	for seed := range 3000 {
		d := dice(seed)
		parts := drawnParts(&d)
		wantMerged(t, parts, drawnTurns(&d, len(parts)))
		if t.Failed() {
			t.Fatalf("seed %d", seed)
		}
	}
}

// Of each part a beginning is taken, in its order, as many as there are turns of it; with enough turns all of it.
func TestBeginningsOfParts(t *testing.T) {
	for seed := range 1000 {
		d := dice(seed)
		parts := make([][]int, 1+d.throw(9))
		for i := range parts {
			for n := range d.throw(9) {
				parts[i] = append(parts[i], 100*i+n) // of which part a number is, it says itself
			}
		}
		turns := drawnTurns(&d, len(parts))
		got := crew.Merge(parts, turns)
		all := crew.Merge(parts, slices.Concat(turns, everyTurn(len(parts), 9)))
		for i, part := range parts {
			n := 0
			for _, turn := range turns {
				if turn == i {
					n++
				}
			}
			wantNumbers(t, fmt.Sprintf("the part %d", i), of100(got, i), part[:min(n, len(part))])
			wantNumbers(t, fmt.Sprintf("the whole part %d", i), of100(all, i), part)
		}
		wantNumbers(t, "with more turns", all[:len(got)], got)
		if t.Failed() {
			t.Fatalf("seed %d: %v, %v", seed, parts, turns)
		}
	}
}

// of100 are the numbers of a part.
func of100(numbers []int, part int) []int {
	var l []int
	for _, n := range numbers {
		if n/100 == part {
			l = append(l, n)
		}
	}
	return l
}

// everyTurn has so many turns of each part.
func everyTurn(parts, times int) []int {
	var turns []int
	for range times {
		for part := range parts {
			turns = append(turns, part)
		}
	}
	return turns
}
