package meter_test

import (
	"math"
	"math/big"
	"testing"

	"gatehouse/api"
	"gatehouse/meter"
)

// A second reckoning, without floats: a rate is so many of the smallest float, a whole number without bounds, of which no more than 53 bits are kept.

type slow struct {
	half, last int
	units      *big.Int
	rounded    int // how often a bit was lost
}

func slowOf(half int) *slow { return &slow{half: half, units: new(big.Int)} }

// cut keeps 53 bits of a whole number, rounded to the nearest, half way to the even one.
func (s *slow) cut(x *big.Int) *big.Int {
	more := uint(max(0, x.BitLen()-53))
	kept := new(big.Int).Rsh(x, more)
	lost := new(big.Int).Sub(x, new(big.Int).Lsh(kept, more))
	if lost.Sign() != 0 {
		s.rounded++
	}
	twice := new(big.Int).Lsh(lost, 1)
	side := twice.Cmp(new(big.Int).Lsh(big.NewInt(1), more))
	if side > 0 || side == 0 && kept.Bit(0) == 1 {
		kept.Add(kept, big.NewInt(1))
	}
	return kept.Lsh(kept, more)
}

// left is what is left of the rate at a moment that is not below the last one.
func (s *slow) left(now int) *big.Int {
	units := new(big.Int).Set(s.units)
	for times := now/s.half - s.last/s.half; times > 0 && units.Sign() > 0; times-- {
		odd := units.Bit(0)
		units.Rsh(units, 1)
		if odd == 1 {
			s.rounded++
			if units.Bit(0) == 1 {
				units.Add(units, big.NewInt(1))
			}
		}
	}
	return units
}

func (s *slow) rate(now int) (float64, api.Errno) {
	switch {
	case now < 0:
		return 0, api.ErrRange
	case now < s.last:
		return 0, api.ErrArg
	}
	units := new(big.Float).SetInt(s.left(now))
	f, _ := units.SetMantExp(units, -1074).Float64()
	return f, api.OK
}

func (s *slow) note(now, n int) api.Errno {
	switch {
	case now < 0 || n < 0:
		return api.ErrRange
	case now < s.last:
		return api.ErrArg
	}
	more := s.cut(big.NewInt(int64(n)))
	s.units = s.cut(more.Lsh(more, 1074).Add(more, s.left(now)))
	s.last = now
	return api.OK
}

// both is a meter and its second reckoning, told the same.
type both struct {
	meter *meter.Meter
	slow  *slow
}

func (b *both) rate(t *testing.T, now int) api.Errno {
	t.Helper()
	want, wantE := b.slow.rate(now)
	if got, e := b.meter.Rate(now); !same(got, want) || e != wantE {
		t.Errorf("Rate(%d) = %b, %v, want %b, %v", now, got, e, want, wantE)
	}
	return wantE
}

func (b *both) note(t *testing.T, now, n int) api.Errno {
	t.Helper()
	want := b.slow.note(now, n)
	if e := b.meter.Note(now, n); e != want {
		t.Errorf("Note(%d, %d) = %v, want %v", now, n, e, want)
	}
	return want
}

// All rows of a few calls, at a few moments.
func TestAllShortRows(t *testing.T) {
	moments := []int{-1, 0, 1, 2, 3, 1078, math.MaxInt}
	counts := []int{-1, 0, 5, 1<<53 + 1}
	kinds := len(counts) + 1 // a Note of each count, a Rate
	calls := len(moments) * kinds
	for _, half := range []int{1, 2, 3, math.MaxInt} {
		for row := range calls * calls * calls {
			b := both{made(t, half), slowOf(half)}
			for rest := row; rest > 0; rest /= calls {
				now, what := moments[rest%calls/kinds], rest%calls%kinds
				if what == len(counts) {
					b.rate(t, now)
				} else {
					b.note(t, now, counts[what])
				}
			}
			for _, now := range moments {
				b.rate(t, now)
			}
			if t.Failed() {
				t.Fatalf("half %d, row %d", half, row)
			}
		}
	}
}

// Long rows, in which time goes on by little, by much, or back.
func TestManyLongRows(t *testing.T) {
	d := dice(20)
	told := map[api.Errno]int{}
	rounded, tiny := 0, 0
	for row := range 400 {
		half := halves()[d.throw(len(halves()))]
		if d.throw(2) == 0 {
			half = 1 + d.throw(12)
		}
		b := both{made(t, half), slowOf(half)}
		for range 200 {
			now := someMoment(&d, b.slow)
			if d.throw(2) == 0 {
				told[b.rate(t, now)]++
			} else {
				told[b.note(t, now, someCount(&d))]++
			}
			if r, _ := b.meter.Rate(b.slow.last); r > 0 && r < 0x1p-1022 {
				tiny++
			}
			b.rate(t, b.slow.last)
			if t.Failed() {
				t.Fatalf("row %d: half %d", row, half)
			}
		}
		rounded += b.slow.rounded
	}
	if told[api.OK] < 30000 || told[api.ErrArg] < 2000 || told[api.ErrRange] < 2000 || rounded < 2000 || tiny < 50 {
		t.Errorf("%v, %d rounded, %d among the smallest: too few to tell", told, rounded, tiny)
	}
}

// someMoment is one near the last moment of a meter, or far from it.
func someMoment(d *dice, s *slow) int {
	near := min(s.half, 1<<20)
	switch d.throw(12) {
	case 0:
		return s.last - d.throw(3*near)
	case 1:
		return -1 - d.throw(1000)
	case 2:
		if s.half < 1<<40 && s.last < 1<<52 {
			return s.last + (1020+d.throw(60))*s.half // down among the smallest floats
		}
	case 3:
		if s.half < 1<<40 && s.last < 1<<52 {
			return (s.last/s.half+1+d.throw(70))*s.half - d.throw(2) // at a period's edge
		}
	case 4:
		if d.throw(50) == 0 {
			return math.MaxInt - d.throw(2)
		}
	}
	return s.last + min(d.throw(2*near), math.MaxInt-s.last)
}

// someCount is a number of things, of any size, now and then below 0.
func someCount(d *dice) int {
	switch d.throw(12) {
	case 0:
		return -1 - d.throw(1000)
	case 1, 2, 3:
		return 0
	case 4:
		return math.MaxInt - d.throw(3)*512
	}
	return int(d.bits() >> 1 >> d.throw(63))
}

// What is answered hangs on what the meter was told alone: the same row gives the same again.
func TestTheSameRowAgain(t *testing.T) {
	row := func() []float64 {
		d := dice(3)
		m := made(t, 7)
		now := 0
		var told []float64
		for range 1000 {
			now += d.throw(20)
			m.Note(now, d.throw(1000))
			r, _ := m.Rate(now + d.throw(20))
			told = append(told, r)
		}
		return told
	}
	want := row()
	for range 5 {
		for i, r := range row() {
			if r != want[i] {
				t.Fatal("the same row tells something else")
			}
		}
	}
}
