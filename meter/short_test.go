package meter_test

import (
	"math"
	"math/big"
	"testing"

	"gatehouse/meter"
)

// 20.5

// tooFar is the least number whose nearest float32 would be none.
const tooFar = 0x1p128 - 0x1p103

// wantBoth asks for the Short of a number and of its negative, whose rests are negatives of one another too (but for a rest of 0, which is never -0).
func wantBoth(t *testing.T, x float64, short float32, rest float64) {
	t.Helper()
	wantShort(t, x, short, rest)
	if rest != 0 {
		rest = -rest
	}
	wantShort(t, -x, -short, rest)
}

func TestShortOfWhatHasNone(t *testing.T) {
	wantShort(t, nan, 0, nan)
	for _, x := range []float64{inf, tooFar, math.Nextafter(tooFar, inf), 0x1p128, 1e39, 1e200, math.MaxFloat64} {
		wantShort(t, x, 0, x)
		wantShort(t, -x, 0, -x)
	}
}

// What is no number is handed back as it came, whatever its bits are.
func TestShortOfEachNoNumber(t *testing.T) {
	for _, b := range []uint64{0x7ff8000000000000, 0x7ff8000000000001, 0xfff8000000000001, 0x7fffffffffffffff} {
		x := math.Float64frombits(b)
		short, rest := meter.Short(x)
		if math.Float32bits(short) != 0 || math.Float64bits(rest) != b {
			t.Errorf("Short(%x) = %v, %x", b, short, math.Float64bits(rest))
		}
	}
}

func TestShortOfZeroes(t *testing.T) {
	wantShort(t, 0, 0, 0)
	wantShort(t, math.Copysign(0, -1), float32(math.Copysign(0, -1)), 0) // -0 less -0 is 0
}

func TestShortOfTheGreatest(t *testing.T) {
	const most = math.MaxFloat32
	below := math.Nextafter(tooFar, 0)
	wantBoth(t, below, most, below-most)
	wantBoth(t, most, most, 0)
	wantBoth(t, math.Nextafter(most, inf), most, 0x1p75)
	wantBoth(t, math.Nextafter(most, 0), most, -0x1p75)
	wantBoth(t, most-0x1p103, 0x1p128-0x1p105, 0x1p103) // half way: to the even one
	wantBoth(t, math.Nextafter(most-0x1p103, inf), most, -0x1p103+0x1p75)
	wantBoth(t, 0x1p128-0x1p105, 0x1p128-0x1p105, 0)
}

func TestShortHalfWay(t *testing.T) {
	wantBoth(t, 1+0x1p-24, 1, 0x1p-24)
	wantBoth(t, 1+0x3p-24, 1+0x1p-22, -0x1p-24)
	wantBoth(t, 1+0x1p-24+0x1p-52, 1+0x1p-23, -0x1p-24+0x1p-52)
	wantBoth(t, 1+0x1p-24-0x1p-52, 1, 0x1p-24-0x1p-52)
	wantBoth(t, 1+0x3p-24-0x1p-52, 1+0x1p-23, 0x1p-24-0x1p-52)
	wantBoth(t, 1-0x1p-25, 1, -0x1p-25)
	wantBoth(t, 1-0x3p-25, 1-0x1p-23, 0x1p-25)
	wantBoth(t, 1<<24+1, 1<<24, 1)
	wantBoth(t, 1<<24+3, 1<<24+4, -1)
	wantBoth(t, 1<<25+2, 1<<25, 2)
	wantBoth(t, 1<<25+6, 1<<25+8, -2)
	wantBoth(t, 2-0x1p-24, 2, -0x1p-24) // the next power of two
}

func TestShortOfTheSmallest(t *testing.T) {
	const least = 0x1p-149
	wantBoth(t, least, least, 0)
	wantBoth(t, 2*least, 2*least, 0)
	wantBoth(t, least/2, 0, least/2) // half way: 0 is even
	wantBoth(t, least/2+0x1p-202, least, -least/2+0x1p-202)
	wantBoth(t, math.Nextafter(least/2, 0), 0, math.Nextafter(least/2, 0))
	wantBoth(t, 1.5*least, 2*least, -least/2)
	wantBoth(t, 2.5*least, 2*least, least/2)
	wantBoth(t, 0x1p-126, 0x1p-126, 0)
	wantBoth(t, 0x1p-126-least, 0x1p-126-least, 0)
	wantBoth(t, 0x1p-126-least/2, 0x1p-126, -least/2)
	wantBoth(t, 0x1p-126-1.5*least, 0x1p-126-2*least, least/2)
	wantBoth(t, 0x1p-126+least/2, 0x1p-126, least/2)
	for _, x := range []float64{0x1p-151, 1e-60, 0x1p-1022, 0x1p-1022 - 0x1p-1074, 3 * 0x1p-1074, 0x1p-1074} {
		wantBoth(t, x, 0, x)
	}
}

// wantNearest asks that a Short's number is as near as its two neighbours at least, nearer than one of them if it is the odd one; and that the rest is just what was lost.
func wantNearest(t *testing.T, x float64) {
	t.Helper()
	short, rest := meter.Short(x)
	if math.IsInf(float64(short), 0) || short != short {
		t.Errorf("Short(%b) = %v", x, short)
		return
	}
	lost := new(big.Rat).Sub(exact(x), exact(float64(short)))
	if lost.Cmp(exact(rest)) != 0 {
		t.Errorf("Short(%b) = %b, %b: that is not x together", x, short, rest)
	}
	for _, way := range []float32{float32(math.Inf(-1)), float32(inf)} {
		beside := math.Nextafter32(short, way)
		if math.IsInf(float64(beside), 0) {
			continue
		}
		off := new(big.Rat).Sub(exact(x), exact(float64(beside)))
		nearer := lost.Abs(lost).Cmp(off.Abs(off))
		if nearer > 0 || nearer == 0 && math.Float32bits(short)&1 == 1 {
			t.Errorf("Short(%b) = %b: there is %b", x, short, beside)
		}
	}
	if byLibrary, _ := exact(x).Float32(); byLibrary != short {
		t.Errorf("Short(%b) = %b, want %b", x, short, byLibrary)
	}
}

// Numbers of all sizes, numbers half way, and the floats beside them.
func TestShortIsTheNearest(t *testing.T) {
	d := dice(205)
	for range 20000 {
		x := d.number(200)
		if math.Abs(x) < tooFar {
			wantNearest(t, x)
		} else {
			wantShort(t, x, 0, x)
		}
		a := math.Float32frombits(uint32(d.throw(0x7f7fffff)))
		b := math.Nextafter32(a, float32(inf))
		middle := (float64(a) + float64(b)) / 2
		for _, y := range []float64{middle, math.Nextafter(middle, inf), math.Nextafter(middle, 0), float64(a), float64(b)} {
			wantNearest(t, y)
			wantNearest(t, -y)
		}
	}
}

// Every pattern of bits is answered.
func TestShortOfAnyBits(t *testing.T) {
	d := dice(2055)
	for range 50000 {
		x := math.Float64frombits(d.bits())
		if x != x || math.Abs(x) >= tooFar {
			wantShort(t, x, 0, x)
		} else {
			wantNearest(t, x)
		}
	}
}

// A float32 is its own Short.
func TestShortOfAShort(t *testing.T) {
	d := dice(2056)
	for range 50000 {
		x := math.Float32frombits(uint32(d.throw(0x7f800000)))
		wantBoth(t, float64(x), x, 0)
	}
}
