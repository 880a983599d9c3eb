package canon_test

import (
	"math"
	"strconv"
	"strings"
	"testing"

	"gatehouse/canon"
)

func wantNumber(t *testing.T, x float64, want string) {
	t.Helper()
	if got, ok := canon.Number(x); got != want || !ok {
		t.Errorf("Number(%v): %q, %v, want %q", x, got, ok, want)
	}
}

func wantNoNumber(t *testing.T, x float64) {
	t.Helper()
	if got, ok := canon.Number(x); got != "" || ok {
		t.Errorf("Number(%v): %q, %v, want none", x, got, ok)
	}
}

func meaning(t *testing.T, number string) float64 {
	t.Helper()
	x, err := strconv.ParseFloat(number, 64)
	if err != nil {
		t.Fatal(err)
	}
	return x
}

// shortest is the shortest number of k parts in 10^9, from the digits alone.
func shortest(k int) string {
	if k == 0 || k == 1e9 {
		return strconv.Itoa(k / 1e9)
	}
	return "0." + strings.TrimRight(strconv.Itoa(1e9 + k)[1:], "0")
}

func TestNumberOfTheExamples(t *testing.T) {
	wantNumber(t, 0, "0")
	wantNumber(t, 1, "1")
	wantNumber(t, 0.5, "0.5")
	wantNumber(t, 0.25, "0.25")
	wantNumber(t, 0.1, "0.1")
	wantNumber(t, 1e-9, "0.000000001")
	wantNumber(t, 0.999999999, "0.999999999")
	wantNumber(t, 0.000000010, "0.00000001")
	wantNumber(t, 0.1e-4, "0.00001")
}

func TestNumberOfWhatHasNone(t *testing.T) {
	sum := 0.1
	sum += 0.2
	for _, x := range []float64{
		math.Copysign(0, -1), 1e-10, 1.0 / 3, sum, 2, -1, math.Inf(1), math.Inf(-1), math.NaN(), math.Copysign(math.NaN(), -1),
		-0.5, -1e-9, 1.5, 1.000000001, 10, 1e9, 1e20, 1e300, -1e300, math.MaxFloat64, math.SmallestNonzeroFloat64, 1e-300, 0.0000000015, 0.1234567891, 0.9999999999, 1.0 / 1024,
		math.Nextafter(1, 0), math.Nextafter(1, 2), math.Nextafter(0, -1),
	} {
		wantNoNumber(t, x)
	}
}

func TestNumbersOfFewDigits(t *testing.T) {
	for k := 0; k <= 1e5; k++ {
		n := shortest(k * 1e4)
		wantNumber(t, meaning(t, n), n)
	}
	for k := range int(1e4) {
		wantNumber(t, meaning(t, shortest(k)), shortest(k))
		wantNumber(t, meaning(t, shortest(1e9-k)), shortest(1e9-k))
	}
}

func TestNumbersOfNineDigitsAndTheirNeighbours(t *testing.T) {
	d := dice(5)
	for range 100000 {
		k := 1 + d.below(1e9-1)
		x := meaning(t, shortest(k))
		wantNumber(t, x, shortest(k))
		wantNoNumber(t, math.Nextafter(x, 0))
		wantNoNumber(t, math.Nextafter(x, 1))
		wantNoNumber(t, -x)
		wantNoNumber(t, 1+x)
	}
}

// Noughts at the end change nothing of what a number means, so the shortest has none.
func TestNumbersWithNoughtsAtTheEnd(t *testing.T) {
	for long, short := range map[string]string{"0.0": "0", "0.000000000": "0", "0.50": "0.5", "0.500000000": "0.5", "0.100000000": "0.1", "0.010": "0.01"} {
		wantNumber(t, meaning(t, long), short)
	}
}
