package cells_test

import (
	"slices"
	"testing"

	"gatehouse/api"
	"gatehouse/cells"
)

// R5, and that two memories share nothing.

// spoilt writes over a list, its spare room too, and behind it.
func spoilt[E any](l []E, filling E) {
	l = l[:cap(l)]
	for i := range l {
		l[i] = filling
	}
	_ = append(l, filling)
}

func TestWordsAreTheHoldersOwn(t *testing.T) {
	m := memory(t, 1, 2, 3, 4, 5, 6)
	for _, c := range [][2]int{{0, 6}, {0, 3}, {2, 2}, {5, 1}, {6, 0}, {0, 0}} {
		one, _ := m.Words(c[0], c[1])
		other, _ := m.Words(c[0], c[1])
		was := slices.Clone(other)
		spoilt(one, 99)
		if !slices.Equal(other, was) {
			t.Errorf("another answer has become %v, from %v", other, was)
		}
		wantWords(t, m, 1, 2, 3, 4, 5, 6)
		_ = append(other, 77)
		wantWords(t, m, 1, 2, 3, 4, 5, 6)
	}
}

func TestWordsStayAsTheyWere(t *testing.T) {
	m := memory(t, 1, 2, 3)
	l, _ := m.Words(0, 3)
	m.Store(0, 7)
	m.Swap(1, 2, 8)
	m.Add(2, 6)
	if !slices.Equal(l, []int{1, 2, 3}) {
		t.Errorf("behind accesses the list is %v", l)
	}
	m.Poison(0, 2)
	m.Clear(2, 1)
	if !slices.Equal(l, []int{1, 2, 3}) {
		t.Errorf("behind Poison and Clear the list is %v", l)
	}
}

// Behind each entry, as the trace's room grows.
func TestTheTraceIsTheHoldersOwn(t *testing.T) {
	m := fresh(t, 1)
	var want []api.Access
	lie := entry(9, 9, 9, 9, true)
	for n := range 70 {
		one, other := m.Trace(), m.Trace()
		spoilt(one, lie)
		if !slices.Equal(other, want) {
			t.Fatalf("another answer of %d entries has become %v", n, other)
		}
		_ = append(other, lie)
		m.Add(0, n)
		want = append(want, entry(4, 0, n, n*(n-1)/2, true))
		wantTrace(t, m, want...)
		// what is put behind an answer of old does not come into the trace
		_ = append(other, lie)
		wantTrace(t, m, want...)
	}
}

func TestTheTraceStaysAsItWas(t *testing.T) {
	m := memory(t, 1, 2)
	l := m.Trace()
	room := slices.Clone(l[:cap(l)])
	m.Load(0)
	m.Note(entry(5, 1, 1, 1, true))
	m.Load(2)
	m.Poison(0, 2)
	m.Clear(0, 2)
	if !slices.Equal(l, []api.Access{entry(2, 0, 1, 0, true), entry(2, 1, 2, 0, true)}) || !slices.Equal(l[:cap(l)], room) {
		t.Errorf("the list is %v, with its room %v", l, l[:cap(l)])
	}
}

func TestTwoMemoriesSideBySide(t *testing.T) {
	for _, size := range [][2]int{{3, 3}, {1, 5}, {5, 1}, {8, 2}} {
		d := dice(141 + uint64(size[0]))
		one, other := fresh(t, size[0]), fresh(t, size[1])
		slowOne, slowOther := &slow{size: size[0]}, &slow{size: size[1]}
		for range 400 {
			m, s := one, slowOne
			if d.throw(2) == 0 {
				m, s = other, slowOther
			}
			c := d.call(max(size[0], size[1]))
			if got, want := c.of(m), c.slowly(s); got != want {
				t.Fatalf("%v answers %q, want %q", c, got, want)
			}
			wantSame(t, one, slowOne)
			wantSame(t, other, slowOther)
			if t.Failed() {
				t.Fatal(c)
			}
		}
	}
}

// What is done with one is not to be seen in another, made ahead of it or behind it.
func TestWhatIsDoneWithOneAlone(t *testing.T) {
	ahead := fresh(t, 3)
	m := fresh(t, 3)
	m.Store(0, 1)
	m.Poison(1, 2)
	m.Load(2)
	m.Load(3)
	m.Note(entry(5, 0, 0, 0, true))
	behind := fresh(t, 3)
	for _, x := range []*cells.Memory{ahead, behind} {
		wantWords(t, x, 0, 0, 0)
		wantTrace(t, x)
		wantBad(t, x, 0)
	}
	behind.Store(1, 4)
	wantWords(t, m, 1, api.Poison, api.Poison)
	wantBad(t, m, 2)
	wantTrace(t, m, entry(2, 0, 1, 0, true), entry(1, 2, api.Poison, 0, false), entry(1, 3, 0, 0, false), entry(5, 0, 0, 0, true))
}

// The same calls give the same answers, in whatever order the two are called in between.
func TestTheSameCallsTheSameAnswers(t *testing.T) {
	one, other := fresh(t, 4), fresh(t, 4)
	for seed := range 20 {
		d, again := dice(seed), dice(seed)
		for range 50 {
			if got, want := d.call(4).of(one), again.call(4).of(other); got != want {
				t.Fatalf("%q and %q", got, want)
			}
		}
	}
	if !slices.Equal(one.Trace(), other.Trace()) || one.Bad() != other.Bad() {
		t.Error("two memories with the same calls have other traces")
	}
	now, _ := one.Words(0, 4)
	wantWords(t, other, now...)
}
