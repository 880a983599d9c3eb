package meter_test

import (
	"math"
	"testing"

	"gatehouse/api"
	"gatehouse/meter"
)

// 20.2

func TestRateBelowNought(t *testing.T) {
	fresh, told := made(t, 10), made(t, 10)
	wantNote(t, told, 25, 3, api.OK)
	for _, now := range []int{-1, -2, -10, -11, -1 << 32, api.Poison, math.MinInt + 1, math.MinInt} {
		wantNoRate(t, fresh, now, api.ErrRange)
		wantNoRate(t, told, now, api.ErrRange) // it is below the last moment too
	}
	wantRate(t, fresh, 0, 0)
	wantRate(t, told, 25, 3)
}

func TestRateBelowTheLastMoment(t *testing.T) {
	for _, half := range halves() {
		for _, last := range []int{1, 2, 10, 1 << 40, math.MaxInt - 1, math.MaxInt} {
			m := made(t, half)
			wantNote(t, m, last, 6, api.OK)
			for _, now := range []int{0, last / 2, last - 1} {
				wantNoRate(t, m, now, api.ErrArg)
			}
			wantRate(t, m, last, 6)
		}
	}
}

// With the last moment anywhere in a period: the rate is the same up to the period's end, and half of it from the next one on, whatever part of a half has passed.
func TestRateAtTheEdgesOfPeriods(t *testing.T) {
	for _, half := range []int{1, 2, 3, 7, 10, 1000, 1 << 32, 1 << 53, 1 << 57} {
		for _, period := range []int{0, 1, 2, 17} {
			for _, into := range []int{0, 1, half / 2, half - 2, half - 1} {
				if into < 0 || into >= half {
					continue
				}
				m := made(t, half)
				wantNote(t, m, period*half+into, 48, api.OK)
				wantRate(t, m, period*half+into, 48)
				for later, want := range []float64{48, 24, 12, 6, 3, 1.5, 0.75} {
					begin := (period + later) * half
					if later > 0 {
						wantRate(t, m, begin, want)
						wantRate(t, m, begin+into, want)
					}
					wantRate(t, m, begin+half-1, want)
				}
			}
		}
	}
}

func TestRateOfAHalfOfOne(t *testing.T) {
	for _, n := range []int{1, 3, 1 << 20, 1<<53 - 1, 1 << 62} {
		m := made(t, 1)
		wantNote(t, m, 5, n, api.OK)
		for later := range 1000 {
			wantRate(t, m, 5+later, math.Ldexp(float64(n), -later))
		}
	}
}

func TestRateOfTheGreatestHalf(t *testing.T) {
	m := made(t, math.MaxInt)
	wantNote(t, m, 0, 5, api.OK)
	for _, now := range []int{0, 1, 1 << 62, math.MaxInt - 1} {
		wantRate(t, m, now, 5)
	}
	wantRate(t, m, math.MaxInt, 2.5)
	wantNote(t, m, math.MaxInt, 0, api.OK)
	wantRate(t, m, math.MaxInt, 2.5)

	m = made(t, math.MaxInt-1)
	wantNote(t, m, math.MaxInt-2, 5, api.OK)
	wantRate(t, m, math.MaxInt-2, 5)
	wantRate(t, m, math.MaxInt-1, 2.5)
	wantRate(t, m, math.MaxInt, 2.5)

	m = made(t, 1<<62)
	wantNote(t, m, 1, 5, api.OK)
	wantRate(t, m, 1<<62-1, 5)
	wantRate(t, m, 1<<62, 2.5)
	wantRate(t, m, math.MaxInt, 2.5)
}

// By hand, in smallest floats: the half of 5 lies half way, and is rounded to the even 2; then come 1 and 0. All at once the last of these would be 1.
func TestRateAmongTheSmallestFloats(t *testing.T) {
	for n, want := range map[int][]float64{
		1:  {1, 0, 0},
		2:  {2, 1, 0, 0},
		3:  {3, 2, 1, 0, 0},
		5:  {5, 2, 1, 0, 0},
		6:  {6, 3, 2, 1, 0, 0},
		7:  {7, 4, 2, 1, 0, 0},
		9:  {9, 4, 2, 1, 0, 0},
		11: {11, 6, 3, 2, 1, 0, 0},
		13: {13, 6, 3, 2, 1, 0, 0},
		21: {21, 10, 5, 2, 1, 0, 0},
		43: {43, 22, 11, 6, 3, 2, 1, 0, 0},
	} {
		m := made(t, 1)
		wantNote(t, m, 0, n, api.OK)
		for later, units := range want {
			wantRate(t, m, 1074+later, units*0x1p-1074)
		}
	}
}

// The roundings do happen: some rates are not what one quotient would be.
func TestRateIsRoundedEachTime(t *testing.T) {
	apart := 0
	for n := range 300 {
		m := made(t, 3)
		wantNote(t, m, 2, n, api.OK)
		units := n
		for later := 1074; later < 1090; later++ {
			now := 3*later + later%3
			wantRate(t, m, now, float64(units)*0x1p-1074)
			if r, _ := m.Rate(now); r != math.Ldexp(float64(n), -later) {
				apart++
			}
			odd := units % 2
			units /= 2
			units += odd * (units % 2) // half way: to the even one
		}
	}
	if apart < 100 {
		t.Errorf("%d rates that one quotient would not give: too few to tell", apart)
	}
}

// Where all bits are in use: the greatest whole numbers that are floats, halved down to nothing.
func TestRateOfAllBits(t *testing.T) {
	for _, n := range []int{1<<53 - 1, 1<<53 - 2, 1<<53 - 3, 0x15555555555555, 0x1aaaaaaaaaaaab} {
		m := made(t, 1)
		wantNote(t, m, 0, n, api.OK)
		wantRate(t, m, 1074, float64(n)*0x1p-1074)
		units := uint64(n)
		for later := 1074; later < 1140; later++ {
			wantRate(t, m, later, float64(units)*0x1p-1074)
			up := units & 1 & (units >> 1)
			units = units>>1 + up
		}
		if units != 0 {
			t.Errorf("%d smallest floats are left", units)
		}
	}
}

func TestRateBehindVeryManyHalvings(t *testing.T) {
	for _, half := range []int{1, 2, 3, 10, 1 << 40} {
		m := made(t, half)
		for range 2000 {
			wantNote(t, m, half-1, math.MaxInt, api.OK)
		}
		wantRate(t, m, half-1, 0x1p63*2000)
		wantRate(t, m, 1000*half, 0x1p-937*2000)
		wantRate(t, m, 1147*half, 2*0x1p-1074) // 1.95 of the smallest floats: 2
		wantRate(t, m, 1149*half, 0)
		for _, later := range []int{1150, 2098, 2099, 2100, 2199, 2200, 2201, 2202, 5000, 1 << 20} {
			wantRate(t, m, later*half, 0)
		}
		wantRate(t, m, math.MaxInt, 0)
		wantRate(t, m, half-1, 0x1p63*2000)
	}
}

// Of two meters that are told the same, one is asked between all notes, far ahead too: nothing tells them apart.
func TestAskingChangesNothing(t *testing.T) {
	d := dice(202)
	for row := range 60 {
		half := 1 + d.throw(9)
		quiet, asked := made(t, half), made(t, half)
		now := 0
		for range 100 {
			now += d.throw(2 * half)
			for range 4 {
				ask := []int{now, now + d.throw(100), math.MaxInt, now - 1 - d.throw(50), -1, 1 << 40}
				asked.Rate(ask[d.throw(len(ask))])
			}
			n := d.throw(1000)
			wantNote(t, quiet, now, n, api.OK)
			wantNote(t, asked, now, n, api.OK)
			r, _ := quiet.Rate(now)
			wantRate(t, asked, now, r)
			wantLast(t, asked, now)
		}
		if t.Failed() {
			t.Fatalf("row %d", row)
		}
	}
}

// The same question has the same answer, in whatever order they come.
func TestRatesInAnyOrder(t *testing.T) {
	m := made(t, 10)
	wantNote(t, m, 3, 1000, api.OK)
	ask := func(m *meter.Meter, now int) float64 {
		r, e := m.Rate(now)
		if e != api.OK {
			t.Errorf("Rate(%d): %v", now, e)
		}
		return r
	}
	var up []float64
	for now := 3; now < 200; now++ {
		up = append(up, ask(m, now))
	}
	for now := 199; now >= 3; now-- {
		if r := ask(m, now); r != up[now-3] {
			t.Errorf("Rate(%d) = %v, and was %v", now, r, up[now-3])
		}
	}
}
