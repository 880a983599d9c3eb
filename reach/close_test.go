package reach_test

import (
	"math"
	"slices"
	"strings"
	"testing"

	"gatehouse/reach"
)

// halves are the next ones of the chapter's example.
func halves(n int) []int {
	if n == 0 {
		return nil
	}
	return []int{n / 2, n - 1}
}

// noted calls next, and notes of what.
func noted[T any](calls *[]T, next func(T) []T) func(T) []T {
	return func(thing T) []T {
		*calls = append(*calls, thing)
		return next(thing)
	}
}

// wantClose: the list, and one call of next for each of its things, in their turns.
func wantClose[T comparable](t *testing.T, from []T, next func(T) []T, want []T) {
	t.Helper()
	var calls []T
	got := reach.Close(from, noted(&calls, next))
	if !slices.Equal(got, want) {
		t.Errorf("Close of %v: %v, want %v", from, got, want)
	}
	if !slices.Equal(calls, want) {
		t.Errorf("Close of %v: next is called of %v, want %v", from, calls, want)
	}
}

func TestCloseGoesBreadthFirst(t *testing.T) {
	wantClose(t, []int{3, 5, 3}, halves, []int{3, 5, 1, 2, 4, 0})
	wantClose(t, []int{0}, halves, []int{0})
	wantClose(t, []int{1}, halves, []int{1, 0})
	wantClose(t, []int{6}, halves, []int{6, 3, 5, 1, 2, 4, 0})
	wantClose(t, []int{0, 6}, halves, []int{0, 6, 3, 5, 1, 2, 4})
}

func TestGivenThingsStandFirstAndOnce(t *testing.T) {
	none := func(string) []string { return nil }
	wantClose(t, []string{"b", "a", "b", "c", "a", "b"}, none, []string{"b", "a", "c"})
	wantClose(t, []string{"", ""}, none, []string{""})
	back := func(s string) []string { return []string{"c", "b", "a"} }
	wantClose(t, []string{"a", "b"}, back, []string{"a", "b", "c"})
}

func TestANextOneThatComesTwiceIsPutOnce(t *testing.T) {
	twice := func(n int) []int { return []int{n % 3, n % 3, 7, n % 3, 7} }
	wantClose(t, []int{4}, twice, []int{4, 1, 7})
	self := func(n int) []int { return []int{n} }
	wantClose(t, []int{9, 8}, self, []int{9, 8})
}

func TestOfNothingNothingIsReached(t *testing.T) {
	wantClose(t, nil, halves, nil)
	wantClose(t, []int{}, halves, nil)
	wantClose(t, make([]int, 0, 8), halves, nil)
}

func TestWithANilNextNoThingHasNextOnes(t *testing.T) {
	for _, from := range [][]int{{3, 5, 3}, {3}, {3, 3, 3, 3}, {}, nil} {
		want := slices.Compact(slices.Sorted(slices.Values(from)))
		if got := reach.Close(from, nil); !slices.Equal(got, want) {
			t.Errorf("Close of %v with no next: %v, want %v", from, got, want)
		}
	}
	if got := reach.Close([]string{"b", "a", "b"}, nil); listed(got) != "b a" {
		t.Errorf("Close with no next: %v", got)
	}
}

// A thing's next ones are asked for when its turn has come, not ahead of it.
func TestNextIsCalledInTheTurn(t *testing.T) {
	open := map[int][]int{1: {2, 3}}
	next := func(n int) []int {
		if n == 2 {
			open[3] = []int{4}
		}
		return open[n]
	}
	if got := reach.Close([]int{1}, next); !slices.Equal(got, []int{1, 2, 3, 4}) {
		t.Errorf("%v", got)
	}
}

type room struct {
	floor int
	name  string
}

func TestThingsOfSeveralTypes(t *testing.T) {
	wantClose(t, []string{"abc"}, func(s string) []string { return []string{strings.TrimSuffix(s, "c"), s[:len(s)/2]} }, []string{"abc", "ab", "a", ""})
	wantClose(t, [][2]int{{2, 1}}, func(a [2]int) [][2]int { return [][2]int{{a[1], a[0]}, {a[0], a[0]}} }, [][2]int{{2, 1}, {1, 2}, {2, 2}, {1, 1}})
	wantClose(t, []room{{2, "hall"}}, func(r room) []room { return []room{{r.floor / 2, r.name}, {r.floor, "stairs"}} },
		[]room{{2, "hall"}, {1, "hall"}, {2, "stairs"}, {0, "hall"}, {1, "stairs"}, {0, "stairs"}})
	wantClose(t, []bool{true}, func(b bool) []bool { return []bool{!b, b} }, []bool{true, false})
	wantClose(t, []uint8{200}, func(b uint8) []uint8 { return []uint8{b + 64} }, []uint8{200, 8, 72, 136})
	wantClose(t, []float64{1}, func(x float64) []float64 { return []float64{math.Trunc(x / 2), 0} }, []float64{1, 0})
	wantClose(t, []complex128{1}, func(z complex128) []complex128 { return []complex128{z * 1i} }, []complex128{1, 1i, -1, -1i})
	wantClose(t, []struct{}{{}, {}}, func(struct{}) []struct{} { return make([]struct{}, 3) }, []struct{}{{}})
}

func TestZeroIsZeroWithEitherSign(t *testing.T) {
	less := math.Copysign(0, -1)
	got := reach.Close([]float64{less, 0}, func(float64) []float64 { return []float64{0, less} })
	if len(got) != 1 || !math.Signbit(got[0]) {
		t.Errorf("%v: want the zero that stands first, alone", got)
	}
}

func TestPointersAreTheSameByWhereTheyPoint(t *testing.T) {
	a, b := &room{1, "hall"}, &room{1, "hall"}
	wantClose(t, []*room{a, nil}, func(*room) []*room { return []*room{nil, b, a} }, []*room{a, nil, b})
}

func TestThingsBehindAnInterface(t *testing.T) {
	next := func(thing any) []any {
		if thing == 1 {
			return []any{"1", 1.0, 1, int8(1), nil, nil}
		}
		return nil
	}
	wantClose(t, []any{1, nil, 1}, next, []any{1, nil, "1", 1.0, int8(1)})
}

// What Go can't compare is not the same as itself: nothing is said of it, but that no call panics.
func TestWhatCannotBeComparedDoesNoHarm(t *testing.T) {
	got := reach.Close([]any{"more", []int{1}, func() {}, "more"}, func(thing any) []any {
		if thing == "more" {
			return []any{[]int{1}, map[int]int{}, "more", "end"}
		}
		return nil
	})
	texts := slices.DeleteFunc(got, func(thing any) bool { _, isText := thing.(string); return !isText })
	if !slices.Equal(texts, []any{"more", "end"}) {
		t.Errorf("%v", texts)
	}
}

// A float that is no number is not the same as itself: nothing is said of it, but that the call ends and the others stand as they would.
func TestNoNumberDoesNoHarm(t *testing.T) {
	got := reach.Close([]float64{2, math.NaN(), 2, 1}, func(x float64) []float64 {
		if x == 1 {
			return []float64{math.NaN(), 3, 2}
		}
		return nil
	})
	numbers := slices.DeleteFunc(got, math.IsNaN)
	if !slices.Equal(numbers, []float64{2, 1, 3}) {
		t.Errorf("%v", numbers)
	}
}

// A call of Close within next goes its own way.
func TestCloseWithinClose(t *testing.T) {
	next := func(n int) []int { return reach.Close(halves(n), halves) }
	wantClose(t, []int{4, 5}, next, []int{4, 5, 2, 3, 1, 0})
}

func TestManyThings(t *testing.T) {
	const most = 300000
	next := func(n int) []int {
		if n == most {
			return nil
		}
		return []int{n + 1, n / 2}
	}
	got := reach.Close([]int{1}, next)
	if len(got) != most+1 || !slices.Equal(got[:4], []int{1, 2, 0, 3}) || got[most] != most {
		t.Errorf("%d things", len(got))
	}
}

// A second reckoning: breadth-first by looking through the list each time.
func slowClose(from []int, next [][]int) []int {
	var list []int
	put := func(things []int) {
		for _, thing := range things {
			if !slices.Contains(list, thing) {
				list = append(list, thing)
			}
		}
	}
	put(from)
	for i := 0; i < len(list); i++ {
		put(next[list[i]])
	}
	return list
}

func TestCloseAgainstASlowOne(t *testing.T) {
	d := dice(7)
	for range 3000 {
		n := 1 + d.throw(9)
		some := func() []int {
			l := make([]int, d.throw(4))
			for i := range l {
				l[i] = d.throw(n)
			}
			return l
		}
		next := make([][]int, n)
		for i := range next {
			next[i] = some()
		}
		from := some()
		wantClose(t, from, func(i int) []int { return next[i] }, slowClose(from, next))
	}
}
