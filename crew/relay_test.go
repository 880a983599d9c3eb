package crew_test

import (
	"fmt"
	"math"
	"slices"
	"testing"

	"gatehouse/crew"
)

// 26.3 and, of rows, 26.5.

// added is Relay once more: each value and all adds, as unsigned numbers, which wrap round by their kind.
func added(values, adds []int) []int {
	if len(adds) > 64 {
		return nil
	}
	sum := uint64(0)
	for _, n := range adds {
		sum += uint64(n)
	}
	var l []int
	for _, n := range values {
		l = append(l, int(uint64(n)+sum))
	}
	return l
}

func wantRelayed(t *testing.T, values, adds []int) {
	t.Helper()
	wantNumbers(t, fmt.Sprintf("Relay(%v; %v)", values, adds), crew.Relay(values, adds), added(values, adds))
}

// lists are all lists of at most so many of the numbers.
func lists(numbers []int, most int) [][]int {
	all := [][]int{nil}
	for from := 0; most > 0; most-- {
		to := len(all)
		for _, l := range all[from:to] {
			for _, n := range numbers {
				all = append(all, append(slices.Clone(l), n))
			}
		}
		from = to
	}
	return all
}

func TestRelayOfShortLists(t *testing.T) {
	for _, values := range lists([]int{0, 1, -7}, 3) {
		for _, adds := range lists([]int{0, 10, -100}, 3) {
			wantRelayed(t, values, adds)
		}
	}
}

func TestRelayAddsEachOfTheAdds(t *testing.T) {
	powers := make([]int, 63)
	for i := range powers {
		powers[i] = 1 << i
	}
	wantNumbers(t, "Relay(0; the powers of 2)", crew.Relay([]int{0}, powers), []int{math.MaxInt})
	wantNumbers(t, "Relay(0; the powers of 2, and a 1)", crew.Relay([]int{0}, append(powers, 1)), []int{math.MinInt})
	for i := range powers {
		adds := make([]int, len(powers))
		adds[i] = powers[i]
		wantNumbers(t, "Relay(5 -5; a power)", crew.Relay([]int{5, -5}, adds), []int{5 + powers[i], powers[i] - 5})
	}
}

// R7: sums wrap round, at both ends, at each place of the row.
func TestRelayWrapsRound(t *testing.T) {
	ends := []int{math.MinInt, math.MinInt + 1, -2, -1, 0, 1, 2, math.MaxInt - 1, math.MaxInt}
	for _, a := range ends {
		for _, b := range ends {
			wantRelayed(t, ends, []int{a, b})
		}
	}
	wantNumbers(t, "Relay(the least; -1)", crew.Relay([]int{math.MinInt}, []int{-1}), []int{math.MaxInt})
	wantNumbers(t, "Relay(the greatest; 64 times the greatest)", crew.Relay([]int{math.MaxInt}, slices.Repeat([]int{math.MaxInt}, 64)), []int{math.MaxInt - 64})
	wantNumbers(t, "Relay(the greatest; 1 -1)", crew.Relay([]int{math.MaxInt}, []int{1, -1}), []int{math.MaxInt})
}

func TestTheMostAdds(t *testing.T) {
	for n := range 70 {
		want := []int{n, 10 + n, n - 3}
		if n > 64 {
			want = nil
		}
		wantNumbers(t, fmt.Sprintf("Relay(0 10 -3; %d ones)", n), crew.Relay([]int{0, 10, -3}, slices.Repeat([]int{1}, n)), want)
		wantNumbers(t, fmt.Sprintf("Relay(none; %d ones)", n), crew.Relay(nil, slices.Repeat([]int{1}, n)), nil)
	}
	wantNumbers(t, "Relay(1; a million adds)", crew.Relay([]int{1}, make([]int, 1000000)), nil)
}

func TestManyValues(t *testing.T) {
	values := make([]int, 20000)
	for i := range values {
		values[i] = i * i
	}
	for _, n := range []int{0, 1, 2, 64} {
		wantNumbers(t, fmt.Sprintf("many values, %d adds", n), crew.Relay(values, slices.Repeat([]int{-3}, n)), added(values, slices.Repeat([]int{-3}, n)))
	}
}

// wide is any number, often one near an end or near 0.
func wide(d *dice) int {
	n := d.throw(7) - 3
	switch d.throw(4) {
	case 0:
		return math.MaxInt - 3 + n
	case 1:
		return math.MinInt + 3 + n
	case 2:
		return d.throw(1<<31)<<33 ^ d.throw(1<<31)<<11 ^ d.throw(1<<31)
	}
	return n
}

func drawnList(d *dice, most int) []int {
	var l []int
	for range d.throw(most + 1) {
		l = append(l, wide(d))
	}
	return l
}

func TestDrawnRelays(t *testing.T) {
	for seed := range 2000 {
		d := dice(seed)
		wantRelayed(t, drawnList(&d, 20), drawnList(&d, of(&d, []int{3, 8, 66})))
		if t.Failed() {
			t.Fatalf("seed %d", seed)
		}
	}
}

// A row behind a row is one row.
func TestARowBehindARow(t *testing.T) {
	for seed := range 1000 {
		d := dice(seed)
		values, a := drawnList(&d, 12), drawnList(&d, of(&d, []int{2, 10, 64}))
		b := drawnList(&d, 64-len(a))
		if seed%5 == 0 {
			b = slices.Repeat([]int{wide(&d)}, 64-len(a))
		}
		got, want := crew.Relay(crew.Relay(values, a), b), crew.Relay(values, slices.Concat(a, b))
		wantNumbers(t, fmt.Sprintf("Relay(Relay(%v; %v); %v)", values, a, b), got, want)
		if t.Failed() {
			t.Fatalf("seed %d", seed)
		}
	}
}
