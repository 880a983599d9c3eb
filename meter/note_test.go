package meter_test

import (
	"math"
	"testing"

	"gatehouse/api"
	"gatehouse/meter"
)

// 20.3

// wantSame asks that a meter has this last moment and this rate there, and halves it at the next period.
func wantSame(t *testing.T, m *meter.Meter, half, last int, rate float64) {
	t.Helper()
	wantLast(t, m, last)
	wantRate(t, m, last, rate)
	wantRate(t, m, (last/half+1)*half-1, rate)
	wantRate(t, m, (last/half+1)*half, rate/2)
}

func TestNoteRefused(t *testing.T) {
	const half, last, rate = 10, 25, 48
	below := []int{-1, -2, -10, -1 << 32, api.Poison, math.MinInt + 1, math.MinInt}
	early := []int{0, 1, 19, 20, 24}
	late := []int{25, 26, 30, 1 << 40, math.MaxInt}
	counts := []int{0, 1, 1 << 40, math.MaxInt}
	m := made(t, half)
	wantNote(t, m, last, rate, api.OK)
	refused := func(now, n int, want api.Errno) {
		t.Helper()
		wantNote(t, m, now, n, want)
		wantSame(t, m, half, last, rate)
	}
	for _, now := range below {
		for _, n := range append(below, counts...) {
			refused(now, n, api.ErrRange)
		}
	}
	for _, n := range below { // with a moment that is too early too: ErrRange comes first
		for _, now := range append(early, late...) {
			refused(now, n, api.ErrRange)
		}
	}
	for _, now := range early {
		for _, n := range counts {
			refused(now, n, api.ErrArg)
		}
	}
}

func TestNoteRefusedAtFirst(t *testing.T) {
	m := made(t, 10)
	wantNote(t, m, -1, 5, api.ErrRange)
	wantNote(t, m, 5, -1, api.ErrRange)
	wantNote(t, m, -1, -1, api.ErrRange)
	wantNote(t, m, math.MinInt, math.MinInt, api.ErrRange)
	wantSame(t, m, 10, 0, 0)
	wantNote(t, m, 0, 2, api.OK)
	wantSame(t, m, 10, 0, 2)
}

// At one moment all that is noted adds up; what comes later comes on top of what is left.
func TestNotesAddUp(t *testing.T) {
	m := made(t, 10)
	for _, x := range []struct {
		now, n int
		want   float64
	}{
		{0, 8, 8}, {0, 8, 16}, {9, 0, 16}, {9, 16, 32}, // all in the period 0
		{10, 0, 16}, {10, 1, 17}, {19, 1, 18}, // one moment later it is another one
		{20, 0, 9}, {29, 2, 11}, {30, 1, 6.5},
		{59, 0, 1.625}, {60, 0, 0.8125}, {60, 0, 0.8125},
	} {
		wantNote(t, m, x.now, x.n, api.OK)
		wantSame(t, m, 10, x.now, x.want)
	}
}

// A note of nothing makes its moment the last one.
func TestNoteOfNothing(t *testing.T) {
	for _, half := range halves() {
		m := made(t, half)
		for _, now := range []int{0, 1, 5, 1 << 33, math.MaxInt - 1, math.MaxInt} {
			wantNote(t, m, now, 0, api.OK)
			wantLast(t, m, now)
			wantRate(t, m, now, 0)
		}
		wantNote(t, m, math.MaxInt-1, 0, api.ErrArg)
		wantNote(t, m, math.MaxInt, 1, api.OK)
		wantRate(t, m, math.MaxInt, 1)
	}
}

// At the last moment, one ahead of the next period, at it, at the greatest int.
func TestNoteAtTheEdgesOfPeriods(t *testing.T) {
	for _, half := range []int{1, 2, 10, 1 << 32, 1 << 60} {
		for _, x := range []struct {
			now  int
			want float64
		}{{3*half - 1, 15}, {3 * half, 11}, {4*half - 1, 11}, {4 * half, 9}, {5*half - 1, 9}} {
			m := made(t, half)
			wantNote(t, m, 2*half+half/2, 8, api.OK)
			wantNote(t, m, x.now, 7, api.OK)
			wantSame(t, m, half, x.now, x.want)
		}
		m := made(t, half)
		wantNote(t, m, 2*half, 8, api.OK)
		wantNote(t, m, math.MaxInt, 7, api.OK)
		left := made(t, half)
		wantNote(t, left, 2*half, 8, api.OK)
		r, _ := left.Rate(math.MaxInt)
		wantRate(t, m, math.MaxInt, r+7)
		wantNote(t, m, math.MaxInt, 1, api.OK)
		wantRate(t, m, math.MaxInt, r+8)
		wantNote(t, m, math.MaxInt-1, 1, api.ErrArg)
	}
}

// How many there are is made the nearest float first, of two as near the even one.
func TestNoteOfWhatIsNoFloat(t *testing.T) {
	for n, want := range map[int]float64{
		math.MaxInt:           0x1p63,
		math.MaxInt - 511:     0x1p63, // half way
		math.MaxInt - 512:     0x1p63 - 1024,
		1<<53 - 1:             0x1p53 - 1,
		1<<53 + 1:             0x1p53,
		1<<53 + 2:             0x1p53 + 2,
		1<<53 + 3:             0x1p53 + 4,
		1<<54 + 2:             0x1p54,
		1<<54 + 3:             0x1p54 + 4,
		1<<54 + 6:             0x1p54 + 8,
		1<<62 + 1<<9:          0x1p62,
		1<<62 + 1<<9 + 1:      0x1p62 + 0x1p10,
		3<<61 + 3<<9:          0x3p61 + 0x1p11,
		1<<62 + 1<<61 - 1:     0x3p61,
		0x1fffffffffffff << 1: 0x1p54 - 2,
	} {
		m := made(t, 1)
		wantNote(t, m, 0, n, api.OK)
		wantRate(t, m, 0, want)
		wantRate(t, m, 1, want/2)
	}
}

// What is noted and the sum are each rounded by itself, not both at once.
func TestNoteRoundsTwice(t *testing.T) {
	m := made(t, 1)
	wantNote(t, m, 0, 1, api.OK)
	wantNote(t, m, 0, 1<<53+1, api.OK)
	wantRate(t, m, 0, 0x1p53) // 2^53, and 1 more is half way; at once it would be 2^53 + 2

	m = made(t, 1)
	wantNote(t, m, 0, 3, api.OK)
	wantNote(t, m, 1, 1<<53+1, api.OK)
	wantRate(t, m, 1, 0x1p53+2) // 2^53 and 1.5

	m = made(t, 1)
	wantNote(t, m, 0, 1<<53, api.OK)
	for range 10 {
		wantNote(t, m, 0, 1, api.OK)
	}
	wantRate(t, m, 0, 0x1p53) // each 1 is lost by itself
	wantNote(t, m, 0, 3, api.OK)
	wantRate(t, m, 0, 0x1p53+4)

	m = made(t, 1)
	wantNote(t, m, 0, 1, api.OK)
	wantNote(t, m, 53, 1, api.OK)
	wantRate(t, m, 53, 1) // what is left is half of the last bit
	wantNote(t, m, 54, 1, api.OK)
	wantRate(t, m, 54, 1.5)

	m = made(t, 1)
	wantNote(t, m, 0, 1, api.OK)
	wantNote(t, m, 52, 1, api.OK)
	wantRate(t, m, 52, 1+0x1p-52)
}

// A note on the way keeps what is left as it is rounded there: nothing else comes of it.
func TestNoteAmongTheSmallestFloats(t *testing.T) {
	for n := range 100 {
		for stop := 1070; stop < 1085; stop++ {
			m, still := made(t, 1), made(t, 1)
			wantNote(t, m, 0, n, api.OK)
			wantNote(t, still, 0, n, api.OK)
			wantNote(t, m, stop, 0, api.OK)
			for now := stop; now < 1090; now++ {
				r, _ := still.Rate(now)
				wantRate(t, m, now, r)
			}
			wantNote(t, m, stop, 1, api.OK)
			wantRate(t, m, stop, 1)
		}
	}
}

// Behind very many halvings nothing is left under what is noted.
func TestNoteBehindVeryManyHalvings(t *testing.T) {
	for _, now := range []int{1200, 2199, 2200, 2201, 1 << 40, math.MaxInt} {
		m := made(t, 1)
		wantNote(t, m, 0, math.MaxInt, api.OK)
		wantNote(t, m, now, 0, api.OK)
		wantLast(t, m, now)
		wantRate(t, m, now, 0)
		wantNote(t, m, now, 6, api.OK)
		wantRate(t, m, now, 6)
	}
}
