package cells_test

import (
	"slices"
	"testing"

	"gatehouse/api"
	"gatehouse/cells"
)

// 14.7

func TestALoadAnswersWhatWasWrittenLast(t *testing.T) {
	m := fresh(t, 2)
	for _, c := range []struct {
		what  string
		write func()
		now   int
	}{
		{"nothing", func() {}, 0},
		{"a store", func() { m.Store(0, 5) }, 5},
		{"a store into another word", func() { m.Store(1, 6) }, 5},
		{"a store of the same", func() { m.Store(0, 5) }, 5},
		{"a swap", func() { m.Swap(0, 5, 8) }, 8},
		{"a swap that was not done", func() { m.Swap(0, 5, 9) }, 8},
		{"an add", func() { m.Add(0, 2) }, 10},
		{"an add to another word", func() { m.Add(1, 2) }, 10},
		{"a clear", func() { m.Clear(0, 1) }, 0},
		{"a store, behind a clear", func() { m.Store(0, 4) }, 4},
		{"a clear of another word", func() { m.Clear(1, 1) }, 4},
		{"a clear of no words", func() { m.Clear(0, 0) }, 4},
		{"a clear that was not done", func() { m.Clear(0, 3) }, 4},
		{"a poison of another word", func() { m.Poison(1, 1) }, 4},
		{"a note of a store", func() { m.Note(entry(2, 0, 9, 4, true)) }, 4},
		{"a store outside", func() { m.Store(2, 9) }, 4},
		{"a poison, and a clear", func() { m.Poison(0, 2); m.Clear(0, 2) }, 0},
		{"a store that is refused, and a clear", func() { m.Poison(0, 1); m.Store(0, 9); m.Clear(0, 1) }, 0},
	} {
		c.write()
		wantLoad(t, m, 0, c.now, api.OK)
		wantLoad(t, m, 0, c.now, api.OK)
		if t.Failed() {
			t.Fatalf("behind %s", c.what)
		}
	}
}

// swapsWon are the places of the swaps from old that answer true, one for each value.
func swapsWon(m *cells.Memory, addr, old int, values []int) []int {
	var won []int
	for i, value := range values {
		if _, ok := m.Swap(addr, old, value); ok {
			won = append(won, i)
		}
	}
	return won
}

func TestOfSwapsTheFirstAloneAnswersTrue(t *testing.T) {
	for _, was := range numbers {
		for _, old := range append(slices.Clone(numbers), api.Poison) {
			m := memory(t, 3, was, 4)
			var values, want []int
			for i := range 6 {
				values = append(values, int(uint(old)+uint(i)+1)) // each another one than old
			}
			now := was
			if was == old {
				want, now = []int{0}, values[0]
			}
			if won := swapsWon(m, 1, old, values); !slices.Equal(won, want) {
				t.Errorf("of swaps of %d from %d these answer true: %v", was, old, won)
			}
			wantWords(t, m, 3, now, 4)
		}
	}
}

// What is done with other words, loads, notes and refused accesses between do not change it; what is written there does.
func TestOfSwapsTheFirstAloneWithOtherThingsBetween(t *testing.T) {
	m := fresh(t, 3)
	wantSwap(t, m, 1, 0, 1, 0, true)
	m.Load(1)
	m.Store(0, 0)
	m.Clear(2, 1)
	m.Poison(0, 1)
	m.Note(entry(2, 1, 0, 1, true))
	m.Swap(3, 0, 1)
	m.Swap(1, 2, 0)
	wantSwap(t, m, 1, 0, 2, 1, false)
	m.Clear(0, 1)
	wantSwap(t, m, 1, 0, 3, 1, false)
	m.Add(1, -1)
	wantSwap(t, m, 1, 0, 4, 0, true)
	wantSwap(t, m, 1, 0, 5, 4, false)
	m.Clear(1, 1)
	wantSwap(t, m, 1, 0, 6, 0, true)
	wantSwap(t, m, 1, 0, 7, 6, false)
}

// A word that is poisoned by the swap itself is won by no later one.
func TestSwapsToPoison(t *testing.T) {
	m := fresh(t, 1)
	if won := swapsWon(m, 0, 0, []int{api.Poison, 1, 2}); !slices.Equal(won, []int{0}) {
		t.Errorf("these answer true: %v", won)
	}
	if won := swapsWon(m, 0, api.Poison, []int{1, 2, 3}); len(won) != 0 {
		t.Errorf("from Poison these answer true: %v", won)
	}
	wantWords(t, m, api.Poison)
	wantBad(t, m, 5)
}

// replayed are the words that the trace's good entries make, one after the other, from 0.
func replayed(t *testing.T, size int, trace []api.Access) []int {
	t.Helper()
	words := make([]int, size)
	for i, x := range trace {
		if !x.Good {
			continue
		}
		was := words[x.Addr]
		switch x.Kind {
		case api.AccessLoad:
			if x.Value != was || x.Old != 0 {
				t.Errorf("the entry %d is %v, the word is %d", i, x, was)
			}
			continue
		case api.AccessAdd:
			words[x.Addr] = was + x.Value
		default:
			words[x.Addr] = x.Value
		}
		if x.Old != was {
			t.Errorf("the entry %d is %v, the word was %d", i, x, was)
		}
	}
	return words
}

func TestTheGoodEntriesMakeTheWords(t *testing.T) {
	d := dice(147)
	for range 300 {
		words := 1 + d.throw(9)
		m := fresh(t, words)
		for range 200 {
			c := d.call(words)
			switch c.name {
			case "Load", "Store", "Swap", "Add", "Words":
				c.of(m)
			}
		}
		wantWords(t, m, replayed(t, words, m.Trace())...)
		if t.Failed() {
			t.FailNow()
		}
	}
}

// So a second memory to which the good entries are done again is the same as the first.
func TestTheGoodEntriesDoneAgain(t *testing.T) {
	d := dice(1470)
	for range 100 {
		words := 1 + d.throw(5)
		m, again := fresh(t, words), fresh(t, words)
		for range 150 {
			call{[]string{"Load", "Store", "Swap", "Add"}[d.throw(4)], d.addr(words), d.value(), d.value()}.of(m)
		}
		var good []api.Access
		for _, x := range m.Trace() {
			if !x.Good {
				continue
			}
			good = append(good, x)
			switch x.Kind {
			case api.AccessLoad:
				wantLoad(t, again, x.Addr, x.Value, api.OK)
			case api.AccessStore:
				wantStore(t, again, x.Addr, x.Value, api.OK)
			case api.AccessSwap:
				wantSwap(t, again, x.Addr, x.Old, x.Value, x.Old, true)
			case api.AccessAdd:
				wantAdd(t, again, x.Addr, x.Value, x.Old, api.OK)
			}
		}
		now, _ := m.Words(0, words)
		wantWords(t, again, now...)
		wantTrace(t, again, good...)
		wantBad(t, again, 0)
		if t.Failed() {
			t.FailNow()
		}
	}
}

// Adds of 1 hand out each number once: a ticket for each who comes.
func TestTickets(t *testing.T) {
	m := fresh(t, 4)
	for want := range 1000 {
		wantAdd(t, m, 2, 1, want, api.OK)
	}
	wantWords(t, m, 0, 0, 1000, 0)
}
