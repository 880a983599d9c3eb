package reach_test

import (
	"slices"
	"strings"
	"testing"
	"unsafe"

	"gatehouse/api"
	"gatehouse/reach"
)

// wipe fills a list and its spare room with zero values.
func wipe[E any](l []E) { clear(l[:cap(l)]) }

// spared has room behind it that is filled, so that a write there would be seen.
func spared[E any](l []E, spare ...E) []E { return append(slices.Clip(l), spare...)[:len(l)] }

func TestPairsStayAsTheyAre(t *testing.T) {
	d := dice(21)
	for range 200 {
		l := spared(d.thrown(6, 12), pairs("s>p a>r")...)
		before := slices.Clone(l[:len(l)+2])
		reach.Up(l, "a")
		reach.Path(l, "a", "b")
		reach.Ups(l)
		reach.Rings(l)
		if !slices.Equal(l[:len(l)+2], before) {
			t.Fatalf("%s: have become %s", written(before), written(l[:len(l)+2]))
		}
	}
}

func TestFromStaysAsItIs(t *testing.T) {
	from := spared([]int{3, 5, 3}, 77, 78)
	for _, next := range []func(int) []int{halves, nil} {
		got := reach.Close(from, next)
		wipe(got)
		if !slices.Equal(from[:5], []int{3, 5, 3, 77, 78}) {
			t.Errorf("from has become %v", from[:5])
		}
	}
}

// What next answers is not changed, nor its spare room, and it is read ahead of the next call: one list may serve for all answers.
func TestWhatNextAnswersIsNotChangedAndNotKept(t *testing.T) {
	answers := map[int][]int{3: spared([]int{1, 1, 2}, 77), 1: spared([]int{4, 3}, 78), 2: spared([]int{}, 79), 4: nil}
	got := reach.Close([]int{3}, func(n int) []int { return answers[n] })
	if !slices.Equal(got, []int{3, 1, 2, 4}) {
		t.Errorf("%v", got)
	}
	wipe(got)
	if !slices.Equal(answers[3][:4], []int{1, 1, 2, 77}) || !slices.Equal(answers[1][:3], []int{4, 3, 78}) || !slices.Equal(answers[2][:1], []int{79}) {
		t.Errorf("the answers have become %v", answers)
	}
	buffer := make([]int, 0, 8)
	got = reach.Close([]int{3, 5}, func(n int) []int {
		wipe(buffer)
		buffer = append(buffer[:0], halves(n)...)
		return buffer
	})
	wipe(buffer)
	if !slices.Equal(got, []int{3, 5, 1, 2, 4, 0}) {
		t.Errorf("with one list for all answers: %v", got)
	}
}

// One list that next answers each time stays whole, and an answer of one call is not another one's.
func TestAnswersOfCloseAreApart(t *testing.T) {
	whole := []int{1, 2, 3}
	next := func(int) []int { return whole }
	a := reach.Close(whole, next)
	b := reach.Close(whole, next)
	wipe(a)
	if !slices.Equal(b, []int{1, 2, 3}) || !slices.Equal(whole, []int{1, 2, 3}) {
		t.Errorf("%v, %v", b, whole)
	}
}

// apart makes each name a text of its own, and notes where it lies.
func apart(l []api.Pair, given map[*byte]bool) []api.Pair {
	own := func(s string) string {
		s = strings.Clone(s)
		given[unsafe.StringData(s)] = true
		return s
	}
	for i := range l {
		l[i] = api.Pair{From: own(l[i].From), To: own(l[i].To)}
	}
	return l
}

// fresh: no text of these is one that was noted, and none is one of the others; all of them are noted.
func fresh(t *testing.T, what string, noted map[*byte]bool, names []string) {
	t.Helper()
	for _, name := range names {
		at := unsafe.StringData(name)
		if noted[at] {
			t.Errorf("%s: %s is a text that stands elsewhere", what, name)
		}
		noted[at] = true
	}
}

func TestAnswersShareNoText(t *testing.T) {
	given := map[*byte]bool{}
	l := apart(pairs("ann>bob bob>cat cat>ann cat>dan dan>dan eve>ann"), given)
	ann, dan, zoe := strings.Clone("ann"), strings.Clone("dan"), strings.Clone("zoe")
	for _, name := range []string{ann, dan, zoe} {
		given[unsafe.StringData(name)] = true
	}
	fresh(t, "Up", given, reach.Up(l, ann))
	fresh(t, "Up again", given, reach.Up(l, ann))
	fresh(t, "Up of no pair's name", given, reach.Up(l, zoe))
	fresh(t, "Path", given, reach.Path(l, ann, dan))
	fresh(t, "Path to itself", given, reach.Path(l, zoe, zoe))
	for name, list := range reach.Ups(l) {
		fresh(t, "Ups, a key", given, []string{name})
		fresh(t, "Ups, a list", given, list)
	}
	for _, ring := range reach.Rings(l) {
		fresh(t, "Rings", given, ring)
	}
}

// No two lists of one answer share memory: one is wiped with its spare room, the others stay.
func TestTheListsOfAnAnswerAreApart(t *testing.T) {
	l := pairs(web + " h>i i>h")
	want := reach.Ups(l)
	for wiped := range want {
		got := reach.Ups(l)
		wipe(got[wiped])
		for name, list := range got {
			if name != wiped && !slices.Equal(list, want[name]) {
				t.Errorf("Ups: the list of %s went with that of %s: %v", name, wiped, list)
			}
		}
	}
	rings := reach.Rings(l)
	for wiped := range rings {
		got := reach.Rings(l)
		wipe(got[wiped])
		for i, ring := range got {
			if i != wiped && !slices.Equal(ring, rings[i]) {
				t.Errorf("Rings: the ring %d went with %d: %v", i, wiped, ring)
			}
		}
	}
}

// Nothing is kept from call to call.
func TestCallsDoNotHangOnOneAnother(t *testing.T) {
	l := pairs(web)
	up, way, rings := reach.Up(l, "a"), reach.Path(l, "d", "e"), reach.Rings(l)
	wipe(up)
	wipe(way)
	for _, r := range rings {
		wipe(r)
	}
	wipe(rings)
	if got := listed(reach.Up(l, "a")); got != "a b c d e" {
		t.Errorf("Up: %s", got)
	}
	if got := listed(reach.Path(l, "d", "e")); got != "d a c e" {
		t.Errorf("Path: %s", got)
	}
	wantRings(t, l, "{a b c d} {f}")
}
