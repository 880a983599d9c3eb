package meter_test

import (
	"math"
	"testing"

	"gatehouse/api"
	"gatehouse/meter"
)

// 20.1

// wantNew asks for an error, and for no meter beside it; or for a meter.
func wantNew(t *testing.T, half int, want api.Errno) {
	t.Helper()
	m, e := meter.New(half)
	if e != want || (m != nil) != (want == api.OK) {
		t.Errorf("New(%d) = %v, %v, want %v", half, m, e, want)
	}
}

// halves are numbers of which a meter is made.
func halves() []int {
	return []int{1, 2, 3, 4, 7, 10, 1000, 1<<31 - 1, 1 << 31, 1 << 32, 1<<53 + 1, 1 << 62, math.MaxInt - 1, math.MaxInt}
}

func TestNewOfEachHalf(t *testing.T) {
	for _, half := range halves() {
		wantNew(t, half, api.OK)
	}
	for half := 1; half <= 3000; half++ {
		wantNew(t, half, api.OK)
	}
	for _, half := range []int{0, -1, -2, -10, -1 << 31, -1 << 32, -1<<32 + 1, api.Poison, math.MinInt + 1, math.MinInt} {
		wantNew(t, half, api.ErrRange)
	}
}

// At first the rate is 0, at all moments, and the last moment is 0.
func TestNewIsAtRest(t *testing.T) {
	for _, half := range halves() {
		for _, now := range []int{0, 1, 2, half - 1, half, half/2 + half/2, 1 << 40, math.MaxInt - 1, math.MaxInt} {
			m := made(t, half)
			wantRate(t, m, now, 0)
			wantRate(t, m, 0, 0)
			wantNote(t, m, 0, 7, api.OK)
			wantRate(t, m, 0, 7)
		}
	}
}

// Two meters share nothing, of the same half or not.
func TestTwoMetersShareNothing(t *testing.T) {
	for _, half := range []int{10, 5} {
		a, b := made(t, 10), made(t, half)
		wantNote(t, a, 23, 16, api.OK)
		wantRate(t, b, 0, 0)
		wantRate(t, b, 23, 0)
		wantNote(t, b, 9, 4, api.OK)
		wantLast(t, a, 23)
		wantLast(t, b, 9)
		wantRate(t, a, 30, 8)
		wantRate(t, b, 10, 2)
	}
}

// Each meter has its own half.
func TestHalvesStayApart(t *testing.T) {
	var meters []*meter.Meter
	for half := 1; half <= 50; half++ {
		m := made(t, half)
		wantNote(t, m, 0, 1, api.OK)
		meters = append(meters, m)
	}
	for i, m := range meters {
		wantRate(t, m, i, 1)
		wantRate(t, m, i+1, 0.5)
	}
}
