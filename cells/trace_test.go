package cells_test

import (
	"math"
	"slices"
	"testing"

	"gatehouse/api"
)

// 14.3, 14.5 and 14.6

// notes are entries of all kinds, also such as accesses make, good and not, and of no kind.
func notes() []api.Access {
	var l []api.Access
	for kind := int8(-2); kind <= 10; kind++ {
		l = append(l, entry(kind, 0, 5, 0, true), entry(kind, 1, 0, 9, false), entry(kind, -1, api.Poison, api.Poison, false), entry(kind, math.MaxInt, math.MinInt, math.MaxInt, true))
	}
	return append(l, api.Access{}, entry(math.MinInt8, math.MinInt, 0, 0, true), entry(math.MaxInt8, 0, 0, 0, false))
}

func TestNotedAsItIs(t *testing.T) {
	m := fresh(t, 2)
	for i, x := range notes() {
		m.Note(x)
		wantTrace(t, m, notes()[:i+1]...)
		wantWords(t, m, 0, 0)
		wantBad(t, m, 0)
	}
	wantLoad(t, m, 0, 0, api.OK)
	wantLoad(t, m, 1, 0, api.OK)
}

// What was noted stands among the accesses, where it was put, and changes nothing of what they answer.
func TestNotedBetween(t *testing.T) {
	m := fresh(t, 2)
	take := api.Access{Kind: api.AccessTake, Addr: 1, Value: 1, Good: true}
	sync := api.Access{Kind: api.AccessSync, Good: true}
	like := entry(1, 5, 0, 0, false)
	m.Note(take)
	wantStore(t, m, 1, 4, api.OK)
	m.Note(sync)
	m.Note(sync)
	wantLoad(t, m, 2, 0, api.ErrAddress)
	m.Note(like)
	wantSwap(t, m, 1, 3, 8, 4, false)
	m.Note(entry(2, 1, 77, 4, true))
	wantLoad(t, m, 1, 4, api.OK)
	m.Note(entry(2, 1, api.Poison, 4, true))
	wantAdd(t, m, 1, 1, 4, api.OK)
	wantTrace(t, m, take, entry(2, 1, 4, 0, true), sync, sync, entry(1, 2, 0, 0, false), like, entry(3, 1, 8, 4, false), entry(2, 1, 77, 4, true), entry(1, 1, 4, 0, true), entry(2, 1, api.Poison, 4, true), entry(4, 1, 1, 4, true))
	wantBad(t, m, 1)
	wantWords(t, m, 0, 5)
}

// Each refused access counts once, by its address or by its word; nothing else does.
func TestBadCountsWhatIsRefused(t *testing.T) {
	m := memory(t, 1, 2, 3)
	m.Poison(2, 1)
	bad := 0
	for _, c := range []struct {
		what    string
		do      func()
		refused bool
	}{
		{"a load", func() { m.Load(0) }, false},
		{"a load outside", func() { m.Load(3) }, true},
		{"a load below", func() { m.Load(-1) }, true},
		{"a load of a poisoned word", func() { m.Load(2) }, true},
		{"a store", func() { m.Store(0, 1) }, false},
		{"a store outside", func() { m.Store(3, 1) }, true},
		{"a store into a poisoned word", func() { m.Store(2, 1) }, true},
		{"a swap", func() { m.Swap(0, 1, 1) }, false},
		{"a swap that found another number", func() { m.Swap(0, 2, 1) }, false},
		{"a swap from Poison that found another number", func() { m.Swap(0, api.Poison, 1) }, false},
		{"a swap outside", func() { m.Swap(3, 0, 1) }, true},
		{"a swap of a poisoned word", func() { m.Swap(2, 3, 1) }, true},
		{"a swap of a poisoned word from Poison", func() { m.Swap(2, api.Poison, 1) }, true},
		{"an add", func() { m.Add(0, 1) }, false},
		{"an add of nothing", func() { m.Add(0, 0) }, false},
		{"an add outside", func() { m.Add(3, 1) }, true},
		{"an add to a poisoned word", func() { m.Add(2, 1) }, true},
		{"a note of what was refused", func() { m.Note(entry(1, 3, 0, 0, false)) }, false},
		{"a note of a take that was refused", func() { m.Note(api.Access{Kind: api.AccessTake}) }, false},
		{"a piece poisoned", func() { m.Poison(2, 1) }, false},
		{"a piece that does not lie within poisoned", func() { m.Poison(2, 2) }, false},
		{"a piece cleared", func() { m.Clear(1, 1) }, false},
		{"a piece that does not lie within cleared", func() { m.Clear(-1, 1) }, false},
		{"words", func() { m.Words(0, 3) }, false},
		{"words that are not there", func() { m.Words(0, 4) }, false},
		{"the trace", func() { m.Trace() }, false},
		{"the length", func() { m.Len() }, false},
	} {
		c.do()
		if c.refused {
			bad++
		}
		if n := m.Bad(); n != bad {
			t.Fatalf("behind %s: Bad() = %d, want %d", c.what, n, bad)
		}
	}
	wantBad(t, m, 10)
}

// Asking for the trace or for the count is no access, and they may be asked again.
func TestAskedAgain(t *testing.T) {
	m := memory(t, 1)
	m.Load(1)
	want := []api.Access{entry(2, 0, 1, 0, true), entry(1, 1, 0, 0, false)}
	for range 3 {
		wantTrace(t, m, want...)
		wantBad(t, m, 1)
		wantWords(t, m, 1)
	}
}

// A trace of many entries, in order.
func TestALongTrace(t *testing.T) {
	const long = 200000
	m := fresh(t, 3)
	var want []api.Access
	for i := range long {
		switch i % 5 {
		case 0:
			m.Store(0, i)
			want = append(want, entry(2, 0, i, max(i-5, 0), true))
		case 1:
			m.Load(0)
			want = append(want, entry(1, 0, i-1, 0, true))
		case 2:
			m.Add(1, i)
			was := 0
			if i > 2 {
				was = want[i-5].Old + want[i-5].Value
			}
			want = append(want, entry(4, 1, i, was, true))
		case 3:
			m.Swap(2, i, i)
			want = append(want, entry(3, 2, i, 0, false))
		case 4:
			m.Note(entry(int8(i%100), i, -i, i+1, i%2 == 0))
			want = append(want, entry(int8(i%100), i, -i, i+1, i%2 == 0))
		}
	}
	got := m.Trace()
	if len(got) != long {
		t.Fatalf("%d entries", len(got))
	}
	for i := range got {
		if got[i] != want[i] {
			t.Fatalf("the entry %d is %v, want %v", i, got[i], want[i])
		}
	}
	if !slices.Equal(m.Trace(), got) {
		t.Error("asked again it is another trace")
	}
	wantBad(t, m, 0)
}
