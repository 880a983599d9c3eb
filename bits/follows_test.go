package bits_test

import (
	"slices"
	"testing"

	"gatehouse/bits"
)

func copied(s *bits.Set) *bits.Set {
	c := bits.New(s.Room())
	c.Join(s)
	return c
}

// 3.7

func TestWhatFollowsOfTwoSetsOfOneRoom(t *testing.T) {
	for _, room := range rooms() {
		for sparse := 1; sparse < 5; sparse++ {
			a, b := sown(room, sparse, 2), sown(room, room+1, sparse)
			either, other := copied(a), copied(b)
			either.Join(b)
			other.Join(a)
			if !slices.Equal(listed(either), listed(other)) {
				t.Errorf("room %d: a joined with b is not b joined with a", room)
			}
			both, same := copied(a), copied(b)
			both.Meet(b)
			same.Meet(a)
			if !slices.Equal(listed(both), listed(same)) {
				t.Errorf("room %d: a met with b is not b met with a", room)
			}
			if either.Count()+both.Count() != a.Count()+b.Count() {
				t.Errorf("room %d: %d + %d of %d + %d", room, either.Count(), both.Count(), a.Count(), b.Count())
			}
			checkLess(t, a, b, both)
		}
	}
}

func checkLess(t *testing.T, a, b, both *bits.Set) {
	t.Helper()
	less := copied(a)
	less.Less(b)
	common := copied(less)
	common.Meet(both)
	if common.Count() != 0 {
		t.Errorf("room %d: a less b, and what both hold, have %v in common", a.Room(), listed(common))
	}
	less.Join(both)
	if !slices.Equal(listed(less), listed(a)) {
		t.Errorf("room %d: a less b, and what both hold, are not a", a.Room())
	}
}

func TestMasksComeBack(t *testing.T) {
	for n := range 65536 {
		m := uint16(n)
		var list []int
		for _, i := range bits.List(m) {
			list = append(list, int(i))
		}
		if got := bits.Mask(list...); got != m {
			t.Fatalf("Mask(List(%d)) = %d", m, got)
		}
		spread := bits.Spread(m)
		if got := bits.Fold(&spread); got != m {
			t.Fatalf("Fold(Spread(%d)) = %d", m, got)
		}
	}
}

func TestQuadTellsWhatHasSays(t *testing.T) {
	for _, room := range rooms() {
		s := sown(room, room, 3)
		wants(t, "strewn", s, listed(s)...)
	}
}
