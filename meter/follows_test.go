package meter_test

import (
	"math"
	"testing"

	"gatehouse/api"
	"gatehouse/meter"
)

// 20.7

// A half later the rate is the half of it, as long as it is 2^-1021 at least; just below that it need not be.
func TestAHalfLater(t *testing.T) {
	d := dice(2071)
	looked, small := 0, 0
	for row := range 200 {
		half := 1 + d.throw(20)
		m := made(t, half)
		last := d.throw(100)
		for range 1 + d.throw(5) {
			last += d.throw(3 * half)
			wantNote(t, m, last, int(d.bits()>>1>>d.throw(63)), api.OK)
		}
		for range 300 {
			now := last + d.throw(1200*half)
			rate, _ := m.Rate(now)
			if rate < 0x1p-1021 {
				continue
			}
			looked++
			if rate < 0x1p-1000 {
				small++
			}
			later, e := m.Rate(now + half)
			if later != rate/2 || later*2 != rate || e != api.OK {
				t.Fatalf("row %d: Rate(%d) = %v, a half later it is %v, %v", row, now, rate, later, e)
			}
		}
	}
	if looked < 30000 || small < 100 {
		t.Errorf("%d looks, %d at small rates: too few to tell", looked, small)
	}
}

// The edge by hand: all 53 bits, the last of which is the smallest float.
func TestAHalfLaterAtTheEdge(t *testing.T) {
	m := made(t, 1)
	wantNote(t, m, 0, 1<<53-1, api.OK)
	wantRate(t, m, 1073, 0x1p-1020-0x1p-1073)
	wantRate(t, m, 1074, 0x1p-1021-0x1p-1074) // just below the edge: still its half, the next time not
	wantRate(t, m, 1075, 0x1p-1022)
	m = made(t, 1)
	wantNote(t, m, 0, 1, api.OK)
	wantRate(t, m, 1021, 0x1p-1021)
	wantRate(t, m, 1022, 0x1p-1022)
}

// A meter that notes the sums of what two others note has the sum of their rates.
func TestSumsOfMeters(t *testing.T) {
	d := dice(2072)
	far := 0
	for row := range 400 {
		half := []int{1, 2, 3, 10, 1 << 28}[d.throw(5)]
		a, b, both := made(t, half), made(t, half), made(t, half)
		first := d.throw(1000) * half
		end := (first/half+31)*half - 1 // the last moment of the period 30 later
		left := 1<<20 - 1
		for now := first; now <= end; now += 1 + d.throw(half+half/4+1) {
			x := d.throw(left/4 + 1)
			y := d.throw(left/4 + 1)
			left -= x + y
			if d.throw(3) > 0 || x > 0 { // who has nothing to note may be told so, or not
				wantNote(t, a, now, x, api.OK)
			}
			if d.throw(3) > 0 || y > 0 {
				wantNote(t, b, now, y, api.OK)
			}
			wantNote(t, both, now, x+y, api.OK)
			for _, ask := range []int{now, now + d.throw(end-now+1), end} {
				p, _ := a.Rate(ask)
				q, _ := b.Rate(ask)
				wantRate(t, both, ask, p+q)
				if p > 0 && q > 0 && (p != math.Floor(p) || q != math.Floor(q)) {
					far++
				}
			}
		}
		if t.Failed() {
			t.Fatalf("row %d", row)
		}
	}
	if far < 1000 {
		t.Errorf("%d sums of parts of a whole: too few to tell", far)
	}
}

// Numbers that are all the same whole number have that as their mean, and no spread.
func TestMeanOfTheSame(t *testing.T) {
	list := make([]float64, 1<<20)
	for _, x := range []float64{0, 1, -1, 3, -7, 1<<30 - 1, 1<<30 - 3, 1 << 30, -1 << 30, -1<<30 + 1, 715827883} {
		for i := range list {
			list[i] = x
		}
		for _, n := range []int{1, 2, 3, 7, 10, 49, 1000, 1<<16 - 1, 1<<20 - 1, 1<<20 - 3, 1 << 20} {
			if mean, spread := meter.Mean(list[:n]); !same(mean, x) || !same(spread, 0) {
				t.Errorf("Mean of %d times %v = %v, %v", n, x, mean, spread)
			}
		}
	}
	d := dice(2073)
	for range 300 {
		x := float64(d.throw(1<<31+1) - 1<<30)
		n := 1 + d.throw(3000)
		for i := range n {
			list[i] = x
		}
		if mean, spread := meter.Mean(list[:n]); mean != x || !same(spread, 0) {
			t.Errorf("Mean of %d times %v = %v, %v", n, x, mean, spread)
		}
	}
}

// Moments one later turn a compass by i; its Lean stays.
func TestMomentsOneLater(t *testing.T) {
	d := dice(2074)
	for range 2000 {
		list := moments(&d, d.throw(30))
		later := make([]int, len(list))
		for i, m := range list {
			if m == math.MaxInt {
				list[i]--
			}
			later[i] = list[i] + 1
		}
		c, turned := meter.Compass(list), meter.Compass(later)
		if turned != c*1i {
			t.Errorf("Compass(%v) = %v, one later %v", list, c, turned)
		}
		if meter.Lean(c) != meter.Lean(turned) {
			t.Errorf("Lean(%v) = %v, one later %v", c, meter.Lean(c), meter.Lean(turned))
		}
	}
}

// Four moments in a row more leave a compass as it is, wherever they stand.
func TestFourMomentsMore(t *testing.T) {
	d := dice(2075)
	for range 2000 {
		list := moments(&d, d.throw(30))
		re, im := turned(list)
		m := int(d.bits()) >> d.throw(64)
		for range 1 + d.throw(3) {
			m = min(m, math.MaxInt-3)
			at := d.throw(len(list) + 1)
			list = append(list[:at:at], append([]int{m, m + 1, m + 2, m + 3}, list[at:]...)...)
		}
		wantCompass(t, list, re, im)
	}
	wantCompass(t, []int{math.MaxInt - 3, math.MaxInt - 2, math.MaxInt - 1, math.MaxInt}, 0, 0)
	wantCompass(t, []int{math.MinInt, math.MinInt + 1, math.MinInt + 2, math.MinInt + 3}, 0, 0)
	wantCompass(t, []int{-2, -1, 0, 1}, 0, 0)
}

// The two numbers of a Short are x together, also by the floats' own sum; no float32 is nearer (wantNearest).
func TestShortIsXTogether(t *testing.T) {
	d := dice(2076)
	list := corners()
	for range 20000 {
		list = append(list, math.Float64frombits(d.bits()), d.number(130), d.number(20))
	}
	some := 0
	for _, x := range list {
		if x != x || math.Abs(x) >= tooFar {
			continue
		}
		some++
		short, rest := meter.Short(x)
		if float64(short)+rest != x {
			t.Errorf("Short(%b) = %b, %b", x, short, rest)
		}
		wantNearest(t, x)
	}
	if some < 40000 {
		t.Errorf("%d numbers: too few to tell", some)
	}
}
