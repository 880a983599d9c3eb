package meter_test

import (
	"math"
	"math/big"
	"slices"
	"testing"

	"gatehouse/meter"
)

// 20.6

func TestCompassOfNone(t *testing.T) {
	wantCompass(t, nil, 0, 0)
	wantCompass(t, []int{}, 0, 0)
	wantCompass(t, []int{1, 2, 3}[:0], 0, 0)
}

// Of one moment: the parts that are nought are 0, not -0.
func TestCompassOfOne(t *testing.T) {
	for _, x := range []struct {
		m      int
		re, im float64
	}{
		{0, 1, 0}, {1, 0, 1}, {2, -1, 0}, {3, 0, -1},
		{4, 1, 0}, {5, 0, 1}, {6, -1, 0}, {7, 0, -1},
		{-1, 0, -1}, {-2, -1, 0}, {-3, 0, 1}, {-4, 1, 0},
		{-5, 0, -1}, {-6, -1, 0}, {-7, 0, 1}, {-8, 1, 0},
		{math.MaxInt, 0, -1}, {math.MaxInt - 1, -1, 0}, {math.MaxInt - 2, 0, 1}, {math.MaxInt - 3, 1, 0},
		{math.MinInt, 1, 0}, {math.MinInt + 1, 0, 1}, {math.MinInt + 2, -1, 0}, {math.MinInt + 3, 0, -1},
		{1 << 32, 1, 0}, {1<<32 + 1, 0, 1}, {-1<<32 + 1, 0, 1}, {-1 << 62, 1, 0},
	} {
		wantCompass(t, []int{x.m}, x.re, x.im)
	}
	for m := -1000; m < 1000; m++ {
		angle := float64(m) * math.Pi / 2
		wantCompass(t, []int{m}, math.Round(math.Cos(angle))+0, math.Round(math.Sin(angle))+0)
	}
}

func TestCompassAddsUp(t *testing.T) {
	wantCompass(t, []int{2, 2, 2}, -3, 0)
	wantCompass(t, []int{3, -1, 7, 0}, 1, -3)
	wantCompass(t, []int{0, 0, 1}, 2, 1)
	wantCompass(t, []int{0, 2, 1, 3}, 0, 0)
	wantCompass(t, []int{2, 0}, 0, 0) // -1 and 1
	wantCompass(t, []int{3, 1}, 0, 0)
	wantCompass(t, []int{math.MinInt, math.MaxInt}, 1, -1)
	wantCompass(t, []int{math.MinInt, math.MinInt, math.MaxInt - 1}, 1, 0)
}

// turned is a second reckoning of Compass: how many there are of each kind, by numbers without bounds.
func turned(times []int) (float64, float64) {
	var kinds [4]int
	for _, m := range times {
		kinds[new(big.Int).Mod(big.NewInt(int64(m)), big.NewInt(4)).Int64()]++
	}
	return float64(kinds[0] - kinds[2]), float64(kinds[1] - kinds[3])
}

// moments are some, great and small, above 0 and below.
func moments(d *dice, n int) []int {
	list := make([]int, n)
	for i := range list {
		list[i] = int(d.bits()) >> d.throw(64)
	}
	return list
}

func TestCompassOfMany(t *testing.T) {
	d := dice(206)
	for range 3000 {
		list := moments(&d, d.throw(40))
		re, im := turned(list)
		wantCompass(t, list, re, im)
		slices.Reverse(list)
		wantCompass(t, list, re, im)
	}
	list := make([]int, 1<<20)
	for i := range list {
		list[i] = 4 * i
	}
	wantCompass(t, list, 1<<20, 0)
	wantCompass(t, append(list, 3, 2), 1<<20-1, -1)
}

func TestCompassLeavesTheList(t *testing.T) {
	whole := []int{1, 5, -3, 0, 2, 2}
	was := slices.Clone(whole)
	wantCompass(t, whole[:3], 0, 3)
	wantCompass(t, whole[3:4], 1, 0)
	if !slices.Equal(whole, was) {
		t.Errorf("the list became %v", whole)
	}
}

func TestLeanByHand(t *testing.T) {
	wantLean(t, 1, 0, 1)
	wantLean(t, 0, 1, 1)
	wantLean(t, -1, 0, 1)
	wantLean(t, 0, -1, 1)
	wantLean(t, -3, 4, 25)
	wantLean(t, 3, -4, 25)
	wantLean(t, -5, -12, 169)
	wantLean(t, 0.5, 0.25, 0.3125)
	minus := math.Copysign(0, -1)
	wantLean(t, minus, minus, 0)
	wantLean(t, minus, 2, 4)
}

// Each square is rounded by itself, ahead of the sum.
func TestLeanIsRounded(t *testing.T) {
	// (2^27 + 1)^2 is 2^54 + 2^28 + 1, the 1 is lost; so is 1.25^2 then, with the 1 it would not be.
	wantLean(t, 0x1p27+1, 0, 0x1p54+0x1p28)
	wantLean(t, 0x1p27+1, 1, 0x1p54+0x1p28)
	wantLean(t, 0x1p27+1, 1.25, 0x1p54+0x1p28)
	wantLean(t, 1.25, 0x1p27+1, 0x1p54+0x1p28)
	wantLean(t, 1.5, 0x1p27+1, 0x1p54+0x1p28+4)
	wantLean(t, 1+0x1p-52, 0, 1+0x1p-51)
	wantLean(t, 1+0x1p-30, 1+0x1p-30, 2+0x1p-28) // 2^-60 is lost twice

	d := dice(2066)
	fused := 0
	for range 20000 {
		power := []int{0, 3, 30}[d.throw(3)]
		re, im := d.number(power), d.number(power)
		a := nearest(new(big.Rat).Mul(exact(re), exact(re)))
		b := nearest(new(big.Rat).Mul(exact(im), exact(im)))
		want := nearest(new(big.Rat).Add(exact(a), exact(b)))
		wantLean(t, re, im, want)
		if want != math.FMA(re, re, im*im) || want != math.FMA(im, im, re*re) {
			fused++
		}
	}
	if fused < 1000 {
		t.Errorf("%d hang on the squares' own rounding: too few to tell", fused)
	}
}

func TestLeanPassesTheGreatestFloat(t *testing.T) {
	wantLean(t, 1e200, 0, inf)
	wantLean(t, 0, -1e200, inf)
	wantLean(t, math.MaxFloat64, math.MaxFloat64, inf)
	wantLean(t, 0x1p512, 0, inf)
	wantLean(t, 0x1p511, 0, 0x1p1022)
	wantLean(t, 0x1p511, 0x1p511, 0x1p1023)
	root := math.Sqrt(math.MaxFloat64)
	wantLean(t, root, 0, root*root)
	wantLean(t, root, root, inf) // the sum alone passes it
}

// In smallest floats: what is too small is lost, each square by itself.
func TestLeanOfTheSmallest(t *testing.T) {
	const least = 0x1p-1074
	wantLean(t, 0x1p-537, 0, least)
	wantLean(t, 0x1p-537, -0x1p-537, 2*least)
	wantLean(t, 0x1p-538, 0x1p-538, 0)           // a quarter, twice
	wantLean(t, 0x1.3p-538, 0x1.3p-538, 0)       // 0.35, twice: together they would be nearer to 1
	wantLean(t, 0x1.8p-538, 0x1.8p-538, 2*least) // 0.56, twice
	wantLean(t, 0x1.8p-537, 0, 2*least)          // 2.25
	wantLean(t, least, least, 0)
	wantLean(t, 1e-200, 1, 1)
}

func TestLeanOfInfinitiesAndNoNumber(t *testing.T) {
	wantLean(t, inf, 0, inf)
	wantLean(t, -inf, 5, inf)
	wantLean(t, 0, -inf, inf)
	wantLean(t, inf, -inf, inf)
	wantLean(t, nan, 0, nan)
	wantLean(t, 0, nan, nan)
	wantLean(t, inf, nan, nan)
	wantLean(t, nan, nan, nan)
	for _, re := range corners() {
		for _, im := range corners() {
			got := meter.Lean(complex(re, im))
			switch {
			case re != re || im != im:
				wantLean(t, re, im, nan)
			case math.IsInf(re, 0) || math.IsInf(im, 0):
				wantLean(t, re, im, inf)
			case math.Signbit(got) || got != got:
				t.Errorf("Lean(%v and %v) = %v", re, im, got)
			}
		}
	}
}
