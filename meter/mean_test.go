package meter_test

import (
	"math"
	"math/big"
	"slices"
	"testing"

	"gatehouse/meter"
)

// 20.4

var inf, nan = math.Inf(1), math.NaN()

// reckoned is a second reckoning of Mean, for numbers none of whose sums passes the greatest float: each step is made without bounds and rounded then.
func reckoned(list []float64) (float64, float64) {
	count := new(big.Rat).SetInt64(int64(len(list)))
	sum := 0.0
	for _, x := range list {
		sum = nearest(new(big.Rat).Add(exact(sum), exact(x)))
	}
	mean := nearest(new(big.Rat).Quo(exact(sum), count))
	squares := 0.0
	for _, x := range list {
		off := exact(nearest(new(big.Rat).Sub(exact(x), exact(mean))))
		square := nearest(new(big.Rat).Mul(off, off))
		squares = nearest(new(big.Rat).Add(exact(squares), exact(square)))
	}
	return mean, nearest(new(big.Rat).Quo(exact(squares), count))
}

func TestMeanOfNone(t *testing.T) {
	wantMean(t, nil, 0, 0)
	wantMean(t, []float64{}, 0, 0)
	wantMean(t, []float64{1, 2, 3}[:0], 0, 0)
}

// Of one number it is that number, the spread 0; but the sum begins with 0, so that -0 is not its own mean.
func TestMeanOfOne(t *testing.T) {
	for _, x := range corners() {
		switch {
		case x != x:
			wantMean(t, []float64{x}, nan, nan)
		case math.IsInf(x, 0):
			wantMean(t, []float64{x}, x, nan)
		case x == 0:
			wantMean(t, []float64{x}, 0, 0)
		default:
			wantMean(t, []float64{x}, x, 0)
		}
	}
	minus := math.Copysign(0, -1)
	wantMean(t, []float64{minus, minus, minus}, 0, 0)
}

func TestMeanByHand(t *testing.T) {
	for _, x := range []struct {
		list         []float64
		mean, spread float64
	}{
		{[]float64{1, 3}, 2, 1},
		{[]float64{-1, 1}, 0, 1},
		{[]float64{2, 4, 4, 4, 5, 5, 7, 9}, 5, 4},
		{[]float64{0, 0, 0, 8}, 2, 12},
		{[]float64{-3, -3, -3}, -3, 0},
		{[]float64{0.5, 0.25}, 0.375, 0.015625},
		{[]float64{0, 0, 1}, 1.0 / 3, 0.22222222222222224}, // the floats beside 2/9
	} {
		mean, spread := meter.Mean(x.list)
		if mean != x.mean || math.Abs(spread-x.spread) > 1e-16 {
			t.Errorf("Mean(%v) = %v, %v, want %v, %v", x.list, mean, spread, x.mean, x.spread)
		}
	}
}

// The sum goes from the first to the last.
func TestMeanGoesInOrder(t *testing.T) {
	wantMean(t, []float64{0x1p53, 1, 1, 0}, 0x1p51, 0x3p102) // each 1 is lost
	mean, _ := meter.Mean([]float64{1, 1, 0x1p53, 0})
	if mean != (0x1p53+2)/4 {
		t.Errorf("the mean is %v", mean)
	}
	mean, _ = meter.Mean([]float64{1e16, 1, -1e16, 0})
	if mean != 0 {
		t.Errorf("the mean is %v", mean)
	}
	mean, _ = meter.Mean([]float64{1e16, -1e16, 1, 0})
	if mean != 0.25 {
		t.Errorf("the mean is %v", mean)
	}
}

// So do the squares: the mean of all these is 0, the spread hangs on where the great one stands.
func TestSpreadGoesInOrder(t *testing.T) {
	const great = 0x1p27
	wantMean(t, []float64{great, -great, 1, -1, 1, -1, 1, -1}, 0, 0x1p52)   // 2^55, in which each 1 is lost
	wantMean(t, []float64{1, -1, 1, -1, 1, -1, great, -great}, 0, 0x1p52+1) // 6; 2^54 + 6 is half way, 2^54 + 8; 2^55 + 8
	wantMean(t, []float64{1, -1, great, -great, 1, -1, 1, -1}, 0, 0x1p52)   // 2; 2^54 + 2 is half way, 2^54; 2^55
}

// Lists of many shapes, and the same the other way round, against the second reckoning.
func TestMeanIsRoundedEachTime(t *testing.T) {
	d := dice(204)
	turned, fused := 0, 0
	for range 3000 {
		list := make([]float64, 1+d.throw(12))
		power := []int{0, 2, 30, 400}[d.throw(4)]
		for i := range list {
			list[i] = d.number(power)
		}
		mean, spread := reckoned(list)
		wantMean(t, list, mean, spread)
		if fusedSpread(list, mean) != spread {
			fused++
		}
		slices.Reverse(list)
		back, backSpread := reckoned(list)
		wantMean(t, list, back, backSpread)
		if back != mean && backSpread != spread {
			turned++
		}
	}
	if turned < 200 || fused < 200 {
		t.Errorf("%d hang on the order, %d on the squares' own rounding: too few to tell", turned, fused)
	}
}

// fusedSpread is the spread as it must not be: each square goes into its sum without being rounded.
func fusedSpread(list []float64, mean float64) float64 {
	sum := 0.0
	for _, x := range list {
		sum = math.FMA(x-mean, x-mean, sum)
	}
	return sum / float64(len(list))
}

func TestMeanOfInfinitiesAndNoNumber(t *testing.T) {
	wantMean(t, []float64{inf, 1}, inf, nan)
	wantMean(t, []float64{1, inf}, inf, nan)
	wantMean(t, []float64{-inf, 1, 2}, -inf, nan)
	wantMean(t, []float64{inf, inf}, inf, nan)
	wantMean(t, []float64{inf, -inf}, nan, nan)
	wantMean(t, []float64{-inf, 5, inf}, nan, nan)
	wantMean(t, []float64{nan, 1}, nan, nan)
	wantMean(t, []float64{1, 2, nan}, nan, nan)
	wantMean(t, []float64{nan, inf}, nan, nan)
}

func TestMeanPassesTheGreatestFloat(t *testing.T) {
	const most = math.MaxFloat64
	wantMean(t, []float64{most, most}, inf, inf)
	wantMean(t, []float64{-most, -most}, -inf, inf)
	wantMean(t, []float64{most, most, -most, -most}, inf, inf) // it does not come back
	wantMean(t, []float64{most, -most, most, -most}, 0, inf)
	wantMean(t, []float64{most, -most, 3}, 1, inf)
	wantMean(t, []float64{most, 0x1p969}, most/2, inf) // less than half of the last bit: the sum is still the greatest
	wantMean(t, []float64{most, 0x1p970}, inf, inf)
	wantMean(t, []float64{1e200, -1e200}, 0, inf)                        // the squares alone pass it
	wantMean(t, []float64{0x1p511, -0x1p511}, 0, 0x1p1022)               // nothing passes it
	wantMean(t, []float64{0x1p511, -0x1p511, 0x1p511, -0x1p511}, 0, inf) // their sum passes it
}

func TestMeanOfTheSmallest(t *testing.T) {
	const least = 0x1p-1074
	wantMean(t, []float64{least, least}, least, 0)
	wantMean(t, []float64{least, 0}, 0, 0)           // half way: to the even one
	wantMean(t, []float64{3 * least, 0}, 2*least, 0) // likewise
	wantMean(t, []float64{0x1p-537, -0x1p-537}, 0, least)
	wantMean(t, []float64{0x1p-538, -0x1p-538}, 0, 0)           // each square is a quarter of the least: 0
	wantMean(t, []float64{0x1.8p-538, -0x1.8p-538}, 0, least)   // each is rounded up to the least
	wantMean(t, []float64{0x1.8p-538, -0x1.8p-538, 0, 0}, 0, 0) // two of the least, a quarter of them: 0
	wantMean(t, []float64{1e-200, -1e-200}, 0, 0)
}

// How many there are is what the list has, not what it has room for; neither is touched.
func TestMeanLeavesTheList(t *testing.T) {
	whole := []float64{4, 3, 2, 1, 100, 200, math.Copysign(0, -1)}
	was := slices.Clone(whole)
	wantMean(t, whole[:4], 2.5, 1.25)
	wantMean(t, whole[1:3], 2.5, 0.25)
	if !slices.EqualFunc(whole, was, same) {
		t.Errorf("the list became %v", whole)
	}
}

// Nothing is kept from one call to the next.
func TestMeanAgain(t *testing.T) {
	for range 3 {
		wantMean(t, []float64{1, 2, 3, 4}, 2.5, 1.25)
		wantMean(t, []float64{nan}, nan, nan)
		wantMean(t, []float64{1e308, 1e308}, inf, inf)
		wantMean(t, nil, 0, 0)
	}
}
