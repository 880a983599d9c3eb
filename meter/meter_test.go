package meter_test

import (
	"math"
	"math/big"
	"testing"

	"gatehouse/api"
	"gatehouse/meter"
)

// made is a new meter.
func made(t *testing.T, half int) *meter.Meter {
	t.Helper()
	m, e := meter.New(half)
	if e != api.OK || m == nil {
		t.Fatalf("New(%d) = %v, %v", half, m, e)
	}
	return m
}

// same says whether two floats are the same, the sign of a zero too; what is no number is the same as what is none.
func same(a, b float64) bool {
	return math.Float64bits(a) == math.Float64bits(b) || a != a && b != b
}

func wantRate(t *testing.T, m *meter.Meter, now int, want float64) {
	t.Helper()
	if r, e := m.Rate(now); !same(r, want) || e != api.OK {
		t.Errorf("Rate(%d) = %v, %v, want %v", now, r, e, want)
	}
}

func wantNoRate(t *testing.T, m *meter.Meter, now int, want api.Errno) {
	t.Helper()
	if r, e := m.Rate(now); !same(r, 0) || e != want {
		t.Errorf("Rate(%d) = %v, %v, want %v", now, r, e, want)
	}
}

func wantNote(t *testing.T, m *meter.Meter, now, n int, want api.Errno) {
	t.Helper()
	if e := m.Note(now, n); e != want {
		t.Errorf("Note(%d, %d) = %v, want %v", now, n, e, want)
	}
}

// wantLast asks that a moment is the last one: it may be asked for, the one ahead of it not.
func wantLast(t *testing.T, m *meter.Meter, last int) {
	t.Helper()
	if _, e := m.Rate(last); e != api.OK {
		t.Errorf("Rate(%d) = %v: the last moment is later", last, e)
	}
	if last == 0 {
		return
	}
	if _, e := m.Rate(last - 1); e != api.ErrArg {
		t.Errorf("Rate(%d) = %v: the last moment is earlier than %d", last-1, e, last)
	}
}

func wantMean(t *testing.T, list []float64, mean, spread float64) {
	t.Helper()
	if a, b := meter.Mean(list); !same(a, mean) || !same(b, spread) {
		t.Errorf("Mean(%v) = %v, %v, want %v, %v", list, a, b, mean, spread)
	}
}

func wantShort(t *testing.T, x float64, short float32, rest float64) {
	t.Helper()
	a, b := meter.Short(x)
	if math.Float32bits(a) != math.Float32bits(short) || !same(b, rest) {
		t.Errorf("Short(%b) = %b, %b, want %b, %b", x, a, b, short, rest)
	}
}

func wantCompass(t *testing.T, times []int, re, im float64) {
	t.Helper()
	if c := meter.Compass(times); !same(real(c), re) || !same(imag(c), im) {
		t.Errorf("Compass(%v) = %v, want %v and %v", times, c, re, im)
	}
}

func wantLean(t *testing.T, re, im, want float64) {
	t.Helper()
	if got := meter.Lean(complex(re, im)); !same(got, want) {
		t.Errorf("Lean(%v and %v) = %v, want %v", re, im, got, want)
	}
}

// dice throws numbers, always the same ones.
type dice uint64

func (d *dice) throw(n int) int {
	*d = *d*6364136223846793005 + 1442695040888963407
	return int(uint64(*d>>33) % uint64(n))
}

// bits are 64 of them.
func (d *dice) bits() uint64 {
	return uint64(d.throw(1<<22))<<42 ^ uint64(d.throw(1<<21))<<21 ^ uint64(d.throw(1<<21))
}

// number is a float that is neither infinite nor no number, as far from 1 as the power of two says.
func (d *dice) number(power int) float64 {
	x := math.Ldexp(1+float64(d.throw(1<<26))/(1<<26)+float64(d.throw(1<<26))/(1<<52), d.throw(2*power+1)-power)
	if d.throw(2) == 0 {
		return -x
	}
	return x
}

// nearest is a number made a float, by the library's numbers without bounds.
func nearest(x *big.Rat) float64 {
	f, _ := x.Float64()
	return f
}

// exact is a float that is a number, as it is.
func exact(x float64) *big.Rat { return new(big.Rat).SetFloat64(x) }

// Floats that may be handed in.
func corners() []float64 {
	some := []float64{0, 0x1p-1074, 0x1p-1073, 0x1p-1022, 0x1p-537, 0x1p-150, 0x1p-149, 0x1p-126, 1e-9, 0.1, 0.5, 1 - 0x1p-53, 1, 1 + 0x1p-52, 1 + 0x1p-24, 1 + 0x3p-24, 2, 3, 1 << 24, 1<<24 + 1, 1 << 53, 1e16, 0x1p127, math.MaxFloat32, 0x1p128 - 0x1p103, 0x1p128, 1e200, math.MaxFloat64, math.Inf(1)}
	for _, x := range some {
		some = append(some, -x)
	}
	return append(some, math.Copysign(0, -1), math.NaN())
}

// The chapter's examples, in their order.
func TestExamples(t *testing.T) {
	wantNew(t, 0, api.ErrRange)
	wantNew(t, -1, api.ErrRange)
	m := made(t, 10)
	wantRate(t, m, 0, 0)
	wantNote(t, m, 3, 8, api.OK)
	for now, want := range map[int]float64{3: 8, 9: 8, 10: 4, 29: 2, 30: 1} {
		wantRate(t, m, now, want)
	}
	wantNote(t, m, 25, 1, api.OK)
	wantRate(t, m, 25, 3)
	wantNoRate(t, m, 24, api.ErrArg)
	wantNote(t, m, 24, 1, api.ErrArg)
	wantNote(t, m, 30, -1, api.ErrRange)
	wantNoRate(t, m, -1, api.ErrRange)
	wantRate(t, m, 45, 0.75)
	wantRate(t, m, 1<<62, 0)

	wantMean(t, []float64{1, 2, 3, 4}, 2.5, 1.25)
	wantMean(t, nil, 0, 0)
	wantMean(t, []float64{5}, 5, 0)
	wantMean(t, []float64{1e308, 1e308}, math.Inf(1), math.Inf(1))

	wantShort(t, 0.5, 0.5, 0)
	wantShort(t, 0.1, 0x1.99999ap-4, -0x6666666p-56)
	wantShort(t, 1e39, 0, 1e39)
	wantShort(t, -1e39, 0, -1e39)

	wantCompass(t, []int{0, 1, 2, 3}, 0, 0)
	wantCompass(t, []int{1, 5, -3}, 0, 3)
	wantCompass(t, []int{0, 4, 6}, 1, 0)
	wantCompass(t, []int{-1}, 0, -1)
	wantLean(t, 3, 4, 25)
	wantLean(t, 0, 0, 0)
}
