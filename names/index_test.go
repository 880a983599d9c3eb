package names_test

import (
	"iter"
	"math"
	"slices"
	"strconv"
	"testing"

	"gatehouse/api"
	"gatehouse/names"
)

func index[K comparable](things ...K) *names.Index[K] {
	x := names.NewIndex[K]()
	for _, k := range things {
		x.Of(k)
	}
	return x
}

func wantOf[K comparable](t *testing.T, x *names.Index[K], k K, want int) {
	t.Helper()
	if got := x.Of(k); got != want {
		t.Errorf("Of(%v) = %d, want %d", k, got, want)
	}
}

func wantFind[K comparable](t *testing.T, x *names.Index[K], k K, want int) {
	t.Helper()
	if got, ok := x.Find(k); got != want || ok != (want != 0) {
		t.Errorf("Find(%v) = %d, %v, want %d", k, got, ok, want)
	}
}

func wantAt[K comparable](t *testing.T, x *names.Index[K], n int, want K) {
	t.Helper()
	if got, ok := x.At(n); got != want || !ok {
		t.Errorf("At(%d) = %v, %v, want %v", n, got, ok, want)
	}
}

func wantNoneAt[K comparable](t *testing.T, x *names.Index[K], n int) {
	t.Helper()
	var zero K
	if got, ok := x.At(n); got != zero || ok {
		t.Errorf("At(%d) = %v, %v, want nothing", n, got, ok)
	}
}

func wantLen[K comparable](t *testing.T, x *names.Index[K], want int) {
	t.Helper()
	if got := x.Len(); got != want {
		t.Errorf("Len = %d, want %d", got, want)
	}
}

func wantAll[K comparable](t *testing.T, all iter.Seq2[int, K], want ...K) {
	t.Helper()
	var got []K
	for n, k := range all {
		got = append(got, k)
		if n != len(got) {
			t.Errorf("the %d. number is %d", len(got), n)
		}
	}
	if !slices.Equal(got, want) {
		t.Errorf("All goes over %v, want %v", got, want)
	}
}

func TestIndexExample(t *testing.T) {
	x := names.NewIndex[string]()
	wantOf(t, x, "b", 1)
	wantOf(t, x, "a", 2)
	wantOf(t, x, "b", 1)
	wantLen(t, x, 2)
	wantFind(t, x, "b", 1)
	wantFind(t, x, "a", 2)
	wantFind(t, x, "c", 0)
	wantAt(t, x, 1, "b")
	wantAt(t, x, 2, "a")
	for _, n := range []int{0, 3, -1, 4, math.MaxInt, math.MinInt, -2, api.MaxSymbols, api.MaxSymbols + 1} {
		wantNoneAt(t, x, n)
	}
	wantLen(t, x, 2)
}

func TestEmptyIndex(t *testing.T) {
	x := names.NewIndex[string]()
	wantLen(t, x, 0)
	wantFind(t, x, "", 0)
	for _, n := range []int{0, 1, -1, math.MaxInt, math.MinInt} {
		wantNoneAt(t, x, n)
	}
	wantOf(t, x, "", 1)
	wantFind(t, x, "", 1)
	wantAt(t, x, 1, "")
	wantLen(t, x, 1)
}

func TestFindGivesNoNumbers(t *testing.T) {
	x := index("a")
	wantFind(t, x, "b", 0)
	wantFind(t, x, "b", 0)
	wantLen(t, x, 1)
	wantNoneAt(t, x, 2)
	wantOf(t, x, "c", 2)
}

// An index takes things, not names: a text that is no name has its number too.
func TestIndexTakesAnyText(t *testing.T) {
	x := index("", "\xff", "role", string(make([]byte, 100)))
	wantLen(t, x, 4)
	wantFind(t, x, "\xff", 2)
	wantFind(t, x, "\ufffd", 0)
	wantFind(t, x, string(make([]byte, 100)), 4)
}

func TestTwoIndexesShareNothing(t *testing.T) {
	x, y := index("a", "b"), index("b")
	wantFind(t, y, "a", 0)
	wantFind(t, y, "b", 1)
	x.Of("c")
	wantLen(t, y, 1)
	wantOf(t, y, "c", 2)
	wantFind(t, x, "c", 3)
}

func TestIndexOfFloats(t *testing.T) {
	x := names.NewIndex[float64]()
	nan, minus := math.NaN(), math.Copysign(0, -1)
	wantOf(t, x, nan, 1)
	wantOf(t, x, nan, 2)
	wantFind(t, x, nan, 0)
	wantOf(t, x, 0, 3)
	wantOf(t, x, minus, 3)
	wantFind(t, x, minus, 3)
	wantLen(t, x, 3)
	for _, n := range []int{1, 2} {
		if f, ok := x.At(n); !math.IsNaN(f) || !ok {
			t.Errorf("At(%d) = %v, %v", n, f, ok)
		}
	}
	if f, ok := x.At(3); f != 0 || math.Signbit(f) || !ok {
		t.Errorf("At(3) = %v, %v", f, ok)
	}
	wantOf(t, x, math.Inf(1), 4)
	wantOf(t, x, math.Inf(1), 4)
	count := 0
	for n, f := range x.All() {
		count++
		if n != count || math.IsNaN(f) != (n < 3) {
			t.Errorf("All: %d, %v", n, f)
		}
	}
	if count != 4 {
		t.Errorf("All goes over %d things", count)
	}
}

func TestAtIsTheThingThatCameFirst(t *testing.T) {
	minus := math.Copysign(0, -1)
	x := index(minus, 0, minus)
	wantLen(t, x, 1)
	if f, ok := x.At(1); !math.Signbit(f) || !ok {
		t.Errorf("At(1) = %v, %v", f, ok)
	}
	for _, f := range x.All() {
		if !math.Signbit(f) {
			t.Errorf("All: %v", f)
		}
	}
}

func TestIndexOfWhatHoldsFloats(t *testing.T) {
	type thing struct {
		name  string
		trust [2]float64
	}
	x := names.NewIndex[thing]()
	strange := thing{"a", [2]float64{1, math.NaN()}}
	wantOf(t, x, strange, 1)
	wantOf(t, x, thing{"a", [2]float64{1, 0}}, 2)
	wantOf(t, x, strange, 3)
	wantOf(t, x, thing{"a", [2]float64{1, math.Copysign(0, -1)}}, 2)
	wantFind(t, x, strange, 0)
	wantLen(t, x, 3)
	if k, ok := x.At(3); k.name != "a" || !math.IsNaN(k.trust[1]) || !ok {
		t.Errorf("At(3) = %v, %v", k, ok)
	}
}

func TestIndexOfOtherThings(t *testing.T) {
	pairs := index(api.Pair{From: "a", To: "b"}, api.Pair{From: "b", To: "a"}, api.Pair{From: "a", To: "b"})
	wantLen(t, pairs, 2)
	wantFind(t, pairs, api.Pair{From: "b", To: "a"}, 2)
	a, b := new(int), new(int)
	pointers := index(a, b, nil, a)
	wantLen(t, pointers, 3)
	wantFind(t, pointers, b, 2)
	wantFind(t, pointers, nil, 3)
	bools := index(true, false, true)
	wantAll(t, bools.All(), true, false)
	empty := index(struct{}{}, struct{}{})
	wantLen(t, empty, 1)
}

// A row of calls that repeats things in many orders, held against a list that is gone through from its start.
func TestIndexAgainstList(t *testing.T) {
	x := names.NewIndex[string]()
	var list []string
	state := 1
	for range 20000 {
		state = state * 48271 % 2147483647
		s := "n" + strconv.Itoa(state%3000)
		at := slices.Index(list, s)
		wantFind(t, x, s, at+1)
		if at < 0 && state%5 != 0 {
			list = append(list, s)
			at = len(list) - 1
		}
		if at >= 0 {
			wantOf(t, x, s, at+1)
		}
		wantLen(t, x, len(list))
		if t.Failed() {
			return
		}
	}
	for i, s := range list {
		wantAt(t, x, i+1, s)
		wantFind(t, x, s, i+1)
		wantOf(t, x, s, i+1)
	}
	wantNoneAt(t, x, len(list)+1)
	wantAll(t, x.All(), list...)
}

func TestFullIndex(t *testing.T) {
	x := names.NewIndex[int]()
	for i := range api.MaxSymbols {
		if got := x.Of(-i); got != i+1 {
			t.Fatalf("Of(%d) = %d", -i, got)
		}
	}
	wantLen(t, x, 1048576)
	for range 2 {
		wantOf(t, x, 1, 0)
		wantFind(t, x, 1, 0)
		wantLen(t, x, 1048576)
		wantNoneAt(t, x, 1048577)
	}
	wantOf(t, x, 0, 1)
	wantOf(t, x, -1048575, 1048576)
	wantFind(t, x, -1048575, 1048576)
	wantAt(t, x, 1048576, -1048575)
	count := 0
	for n, k := range x.All() {
		count++
		if n != count || k != 1-n {
			t.Fatalf("All: %d, %d", n, k)
		}
	}
	if count != 1048576 {
		t.Errorf("All goes over %d things", count)
	}
}

// What is no number counts as another thing each time, at the last number too.
func TestFullIndexOfFloats(t *testing.T) {
	x := index(0.5)
	nan := math.NaN()
	for i := 2; i <= api.MaxSymbols; i++ {
		if got := x.Of(nan); got != i {
			t.Fatalf("Of(NaN) = %d, want %d", got, i)
		}
	}
	wantOf(t, x, nan, 0)
	wantOf(t, x, 1, 0)
	wantOf(t, x, 0.5, 1)
	wantLen(t, x, api.MaxSymbols)
	wantNoneAt(t, x, api.MaxSymbols+1)
}

func TestAllIsAsAtTheCall(t *testing.T) {
	x := names.NewIndex[string]()
	none := x.All()
	if none == nil {
		t.Fatal("All of an empty index is nil")
	}
	wantAll(t, none)
	x.Of("b")
	x.Of("a")
	two := x.All()
	x.Of("c")
	x.Of("a")
	three := x.All()
	for i := range 100 {
		x.Of(strconv.Itoa(i))
	}
	for range 2 {
		wantAll(t, none)
		wantAll(t, two, "b", "a")
		wantAll(t, three, "b", "a", "c")
	}
	wantLen(t, x, 103)
}

// Iterators that are taken at each length: none may see what comes into another's spare room.
func TestAllAtEachLength(t *testing.T) {
	x := names.NewIndex[int]()
	var taken []iter.Seq2[int, int]
	var list []int
	for i := range 70 {
		taken = append(taken, x.All())
		x.Of(i * i)
		list = append(list, i*i)
	}
	for n, all := range taken {
		wantAll(t, all, list[:n]...)
	}
}

func TestAllMayBeStopped(t *testing.T) {
	x := index("a", "b", "c")
	all := x.All()
	for stop := 1; stop <= 3; stop++ {
		var got []string
		for n, k := range all {
			got = append(got, k)
			if n == stop {
				break
			}
		}
		if !slices.Equal(got, []string{"a", "b", "c"}[:stop]) {
			t.Errorf("stopped at %d: %v", stop, got)
		}
		wantAll(t, all, "a", "b", "c")
	}
	next, end := iter.Pull2(all)
	if n, k, ok := next(); n != 1 || k != "a" || !ok {
		t.Errorf("next: %d, %s, %v", n, k, ok)
	}
	end()
	wantAll(t, all, "a", "b", "c")
}

func TestAllWhileThingsCome(t *testing.T) {
	x := index("a", "b")
	all := x.All()
	for n, k := range all {
		wantOf(t, x, k+k, 2+n)
		wantAll(t, all, "a", "b")
	}
	wantLen(t, x, 4)
	wantAll(t, x.All(), "a", "b", "aa", "bb")
}

func TestNumbersStay(t *testing.T) {
	x := names.NewIndex[string]()
	given := map[string]int{}
	for i := range 5000 {
		s := strconv.Itoa(i * 7 % 1000)
		n := x.Of(s)
		if old, there := given[s]; there && old != n {
			t.Fatalf("%s had the number %d, and has %d", s, old, n)
		}
		given[s] = n
	}
	have := make([]bool, x.Len()+1)
	for s, n := range given {
		if n < 1 || n > x.Len() || have[n] {
			t.Fatalf("%s has the number %d of %d", s, n, x.Len())
		}
		have[n] = true
		wantAt(t, x, n, s)
	}
	wantLen(t, x, len(given))
}
