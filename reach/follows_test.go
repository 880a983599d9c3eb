package reach_test

import (
	"slices"
	"testing"

	"gatehouse/reach"
)

// What follows (promise 7.6), held against the answers alone.

func TestWaysGoOnFromOneAnother(t *testing.T) {
	d := dice(11)
	joined := 0
	for range 400 {
		l := d.thrown(7, 12)
		for _, a := range letters(8) {
			for _, b := range reach.Up(l, a) {
				for _, c := range reach.Up(l, b) {
					joined++
					if !slices.Contains(reach.Up(l, a), c) || len(reach.Path(l, a, c)) == 0 {
						t.Fatalf("%s: %s to %s to %s", written(l), a, b, c)
					}
				}
			}
		}
	}
	if joined < 10000 {
		t.Errorf("%d joined ways only", joined)
	}
}

// letters are the first names of the alphabet.
func letters(n int) []string {
	var l []string
	for i := range n {
		l = append(l, string(rune('a'+i)))
	}
	return l
}

func TestEachNameOnceAndInOneRing(t *testing.T) {
	d := dice(12)
	for range 2000 {
		l := d.thrown(9, 16)
		seen := map[string]int{}
		for _, ring := range reach.Rings(l) {
			if len(ring) == 0 {
				t.Fatalf("%s: an empty ring", written(l))
			}
			for _, name := range ring {
				seen[name]++
				for _, other := range ring {
					if !slices.Contains(reach.Up(l, name), other) {
						t.Fatalf("%s: %s does not reach %s of its ring", written(l), name, other)
					}
				}
			}
		}
		for name, times := range seen {
			if times != 1 {
				t.Fatalf("%s: %s is %d times in rings", written(l), name, times)
			}
		}
		for _, from := range letters(10) {
			up := reach.Up(l, from)
			if sorted := slices.Sorted(slices.Values(up)); len(slices.Compact(sorted)) != len(up) {
				t.Fatalf("%s: Up of %s has a name twice: %v", written(l), from, up)
			}
		}
	}
}

// The pairs' order and their number change the order of what is told, not what is reached.
func TestTheOrderOfPairsChangesOrdersAlone(t *testing.T) {
	d := dice(13)
	for range 500 {
		l := d.thrown(8, 14)
		turned := append(slices.Clone(l), l...)
		slices.Reverse(turned)
		for _, from := range letters(8) {
			a, b := slices.Sorted(slices.Values(reach.Up(l, from))), slices.Sorted(slices.Values(reach.Up(turned, from)))
			if !slices.Equal(a, b) {
				t.Fatalf("%s: Up of %s: %v and %v", written(l), from, a, b)
			}
			for _, to := range letters(8) {
				if len(reach.Path(l, from, to)) != len(reach.Path(turned, from, to)) {
					t.Fatalf("%s: the ways from %s to %s", written(l), from, to)
				}
			}
		}
		if len(reach.Rings(l)) != len(reach.Rings(turned)) || len(reach.Ups(l)) != len(reach.Ups(turned)) {
			t.Fatalf("%s: rings or ups", written(l))
		}
	}
}
