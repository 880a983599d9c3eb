package bits_test

import (
	"math"
	"slices"
	"testing"

	"gatehouse/bits"
)

// 3.6

func TestMask(t *testing.T) {
	for _, c := range []struct {
		list []int
		want uint16
	}{
		{nil, 0},
		{[]int{}, 0},
		{[]int{0}, 1},
		{[]int{15}, 32768},
		{[]int{0, 3, 3, 16, -1}, 9},
		{[]int{3, 0}, 9},
		{[]int{5, 5, 5}, 32},
		{[]int{7, 7}, 128},
		{[]int{15, 14, 13, 12, 11, 10, 9, 8, 7, 6, 5, 4, 3, 2, 1, 0}, 65535},
		{[]int{16, 17, 31, 32, 63, 64, 65, 256, 65536, 1 << 32, 1 << 48, math.MaxInt}, 0},
		{[]int{-1, -15, -16, -64, -65536, math.MinInt, math.MinInt + 3}, 0},
		{[]int{16, 2, -1, 2, 99}, 4},
	} {
		given := slices.Clone(c.list)
		if got := bits.Mask(given...); got != c.want {
			t.Errorf("Mask(%v) = %d, want %d", c.list, got, c.want)
		}
		if !slices.Equal(given, c.list) {
			t.Errorf("Mask changed its list %v to %v", c.list, given)
		}
	}
	for i := range 16 {
		if got := bits.Mask(i); got != 1<<i {
			t.Errorf("Mask(%d) = %d", i, got)
		}
	}
	if bits.Mask() != 0 {
		t.Error("Mask()")
	}
}

func TestMaskOfALongList(t *testing.T) {
	list := make([]int, 100000)
	for i := range list {
		list[i] = i - 50000
	}
	if got := bits.Mask(list...); got != 65535 {
		t.Errorf("Mask = %d", got)
	}
}

func TestListAndSpreadOfEveryMask(t *testing.T) {
	for n := range 65536 {
		m := uint16(n)
		var list []int8
		var spread [16]int8
		for i := range 16 {
			if n/(1<<i)%2 == 1 {
				list = append(list, int8(i))
				spread[i] = 1
			}
		}
		if got := bits.List(m); !slices.Equal(got, list) {
			t.Fatalf("List(%d) = %v", m, got)
		}
		if got := bits.Spread(m); got != spread {
			t.Fatalf("Spread(%d) = %v", m, got)
		}
	}
}

func TestExamplesOfMasks(t *testing.T) {
	if got := bits.List(9); !slices.Equal(got, []int8{0, 3}) {
		t.Errorf("List(9) = %v", got)
	}
	if got := bits.List(0); len(got) != 0 {
		t.Errorf("List(0) = %v", got)
	}
	if got := bits.List(65535); len(got) != 16 || got[0] != 0 || got[15] != 15 {
		t.Errorf("List(65535) = %v", got)
	}
	if got := bits.Spread(9); got != [16]int8{0: 1, 3: 1} {
		t.Errorf("Spread(9) = %v", got)
	}
	if got := bits.Fold(&[16]int8{0: 7, 15: -1}); got != 32769 {
		t.Errorf("Fold = %d", got)
	}
}

func TestListsAreNewMemory(t *testing.T) {
	a, b := bits.List(9), bits.List(9)
	a[0] = 5
	_ = append(a, 6)
	if !slices.Equal(b, []int8{0, 3}) || !slices.Equal(bits.List(9), []int8{0, 3}) {
		t.Errorf("%v, %v", b, bits.List(9))
	}
}

func TestFoldOfEveryNumberAtEveryPlace(t *testing.T) {
	for i := range 16 {
		for n := math.MinInt8; n <= math.MaxInt8; n++ {
			var a [16]int8
			a[i] = int8(n)
			want := uint16(1) << i
			if n == 0 {
				want = 0
			}
			if got := bits.Fold(&a); got != want {
				t.Errorf("Fold of %d at %d = %d, want %d", n, i, got, want)
			}
		}
	}
}

func TestFoldOfMixedNumbers(t *testing.T) {
	for _, c := range []struct {
		a    [16]int8
		want uint16
	}{
		{[16]int8{}, 0},
		{[16]int8{1, 1, 1, 1, 1, 1, 1, 1, 1, 1, 1, 1, 1, 1, 1, 1}, 65535},
		{[16]int8{2, 0, -128, 0, 127, 0, 64, 0, -2, 0, 4, 0, 8, 0, 16, 0}, 0x5555},
		{[16]int8{0, 2, 0, -128, 0, 127, 0, 64, 0, -2, 0, 4, 0, 8, 0, 16}, 0xaaaa},
	} {
		a := c.a
		if got := bits.Fold(&a); got != c.want {
			t.Errorf("Fold(%v) = %d, want %d", c.a, got, c.want)
		}
		if a != c.a {
			t.Errorf("Fold changed its array %v to %v", c.a, a)
		}
	}
}

func TestFoldOfNone(t *testing.T) {
	if got := bits.Fold(nil); got != 0 {
		t.Errorf("Fold(nil) = %d", got)
	}
}
