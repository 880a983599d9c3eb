package epoch_test

import (
	"math"
	"math/big"
	"testing"

	"gatehouse/api"
	"gatehouse/cells"
	"gatehouse/epoch"
)

// 18.1

// wantNew asks for an error, and for no slots beside it; or for slots.
func wantNew(t *testing.T, m *cells.Memory, at, first, n int, want api.Errno) {
	t.Helper()
	s, e := epoch.New(m, at, first, n)
	if e != want || (s != nil) != (want == api.OK) {
		t.Errorf("New(.., %d, %d, %d) = %v, %v, want %v", at, first, n, s, e, want)
	}
}

// places are addresses around those of a memory of so many words, and far from them.
func places(words int) []int {
	list := []int{math.MinInt, math.MinInt + 1, api.Poison, -1 << 32, -17, -16, -15, -3, -2, -1}
	for addr := range min(words, 25) {
		list = append(list, addr)
	}
	for _, near := range []int{words, words - 16} {
		list = append(list, near-2, near-1, near, near+1, near+2)
	}
	return append(list, 1<<32, 1<<32+1, -api.Poison, math.MaxInt-17, math.MaxInt-16, math.MaxInt-15, math.MaxInt-2, math.MaxInt-1, math.MaxInt)
}

// numbers are such of slots: those that may be, those beside them, and great ones.
func numbers() []int {
	list := []int{math.MinInt, math.MinInt + 1, -1 << 32, -16, -2, -1, 18, 32, 1 << 32, 1<<32 + 1, 1 << 62, math.MaxInt - 1, math.MaxInt}
	for n := range 18 {
		list = append(list, n)
	}
	return list
}

// refusal is a second reckoning: the address of each word for itself, by numbers that do not wrap round.
func refusal(words, at, first, n int) api.Errno {
	if n < 1 || n > 16 {
		return api.ErrRange
	}
	one, all := big.NewInt(1), big.NewInt(int64(words))
	inside := func(addr *big.Int) bool { return addr.Sign() >= 0 && addr.Cmp(all) < 0 }
	epochs, slot := big.NewInt(int64(at)), big.NewInt(int64(first))
	lie, same := inside(epochs), false
	for range n {
		lie = lie && inside(slot)
		same = same || slot.Cmp(epochs) == 0
		slot = new(big.Int).Add(slot, one)
	}
	switch {
	case !lie:
		return api.ErrAddress
	case same:
		return api.ErrArg
	}
	return api.OK
}

func TestNewOfEachAddressAndNumber(t *testing.T) {
	for _, words := range []int{1, 2, 3, 10, 16, 17, 18, 20, api.MaxWords} {
		m := fresh(t, words)
		for _, at := range places(words) {
			for _, first := range places(words) {
				for _, n := range numbers() {
					wantNew(t, m, at, first, n, refusal(words, at, first, n))
				}
			}
		}
		if len(m.Trace()) != 0 {
			t.Errorf("New accesses: %v", m.Trace()[:1])
		}
	}
}

// No memory is the first error, whatever else is wrong.
func TestNewOfNoMemory(t *testing.T) {
	for _, at := range []int{-1, 0, 1, 10, math.MaxInt, math.MinInt} {
		for _, first := range []int{-1, 0, 1, 10, math.MaxInt, math.MinInt} {
			for _, n := range []int{0, 1, 3, 16, 17, -1, math.MaxInt, math.MinInt} {
				wantNew(t, nil, at, first, n, api.ErrNil)
			}
		}
	}
}

// The number counts ahead of the addresses, these ahead of a word that would be both.
func TestNewInOrder(t *testing.T) {
	m := fresh(t, 10)
	for _, n := range []int{0, -1, 17, math.MaxInt, math.MinInt} {
		wantNew(t, m, 10, 4, n, api.ErrRange)
		wantNew(t, m, 1, -1, n, api.ErrRange)
		wantNew(t, m, 4, 4, n, api.ErrRange)
		wantNew(t, m, 1, 4, n, api.ErrRange)
	}
	wantNew(t, m, 9, 8, 3, api.ErrAddress) // the last slot's word is outside, the second one's is the epoch's
	wantNew(t, m, 10, 9, 2, api.ErrAddress)
	wantNew(t, m, -1, -1, 1, api.ErrAddress)
	wantNew(t, m, 0, -1, 3, api.ErrAddress)
	wantNew(t, m, math.MaxInt, math.MaxInt, 1, api.ErrAddress)
	wantNew(t, m, 1, math.MaxInt, 16, api.ErrAddress)
	wantNew(t, m, 1, math.MaxInt-15, 16, api.ErrAddress)
}

// The epoch's word may lie just ahead of the slots and just behind them.
func TestNewBesideTheSlots(t *testing.T) {
	for _, n := range []int{1, 2, 3, 15, 16} {
		m := fresh(t, n+2)
		wantNew(t, m, 0, 1, n, api.OK)
		wantNew(t, m, 1, 1, n, api.ErrArg)
		wantNew(t, m, n, 1, n, api.ErrArg)
		wantNew(t, m, n+1, 1, n, api.OK)
		wantNew(t, m, 0, 2, n, api.OK)
		wantNew(t, m, 0, 3, n, api.ErrAddress)
		wantNew(t, m, n+1, 0, n, api.OK)
		wantNew(t, m, n+1, 2, n, api.ErrArg)
		wantNew(t, m, n+2, 1, n, api.ErrAddress)
	}
}

// Neither New nor Enter nor Wait is an access, be it refused or not; the words stay as they are, whatever stands there.
func TestMakingAccessesNothing(t *testing.T) {
	for _, now := range corners() {
		for _, word := range corners() {
			m, _ := standing(t, now, word, word, word)
			m.Load(size)
			wantTraced(t, m, "New, Enter, Wait", func() {
				s := over(t, m, at, first, count)
				for slot := range count {
					enter(t, s, slot)
					s.Wait()
				}
				s.Enter(-1)
				s.Enter(count)
				wantNew(t, m, at, first, 0, api.ErrRange)
				wantNew(t, m, at, first, size, api.ErrAddress)
				wantNew(t, m, first, first, 1, api.ErrArg)
			})
			wantRow(t, m, now, word, word, word)
		}
	}
}

// Wherever the words lie, they are those that New was told, and no other word changes.
func TestTheWordsAreTheOnesToldOf(t *testing.T) {
	for _, words := range []int{2, 5, 17, 20} {
		for at := range words {
			for first := range words {
				for n := 1; n <= 16; n++ {
					if refusal(words, at, first, n) == api.OK {
						useAll(t, words, at, first, n)
					}
				}
			}
		}
	}
	useAll(t, api.MaxWords, api.MaxWords-1, api.MaxWords-17, 16)
	useAll(t, api.MaxWords, 0, api.MaxWords-16, 16)
}

// useAll has a section in each slot, a grace period that waits for each, and leaves each.
func useAll(t *testing.T, words, at, first, n int) {
	t.Helper()
	m := fresh(t, words)
	want := make([]int, words)
	for addr := range min(words, 40) {
		want[addr] = 100 + addr
		set(m, addr, want[addr])
	}
	was := want[at]
	s := over(t, m, at, first, n)
	for slot := range n {
		x, old := enter(t, s, slot), want[first+slot]
		wantBegin(t, m, x, 0, false, 0, loads(at, was))
		wantBegin(t, m, x, 0, true, was, stores(first+slot, was, old))
		want[first+slot] = was
	}
	wantWords(t, m, want...)
	g := s.Wait()
	wantStep(t, m, g, false, 0, adds(at, was))
	want[at] = was + 1
	for slot := range n {
		if was != 0 { // a mark of 0 holds up nobody
			wantStep(t, m, g, false, slot, loads(first+slot, was))
		}
		wantLeave(t, m, s, slot, api.OK, stores(first+slot, 0, was))
		want[first+slot] = 0
		next := slot + 1
		if next == n {
			next = -1
		}
		wantStep(t, m, g, slot == n-1, next, loads(first+slot, 0))
	}
	wantWords(t, m, want...)
}

// Slots of the same words are the same: it does not matter by which a section began, was left or is waited for.
func TestTwoOfTheSameWords(t *testing.T) {
	m, s := standing(t, 3)
	x, g := enter(t, s, 2), s.Wait()
	o := over(t, m, at, first, count) // made while the first is in use
	wantBegin(t, m, x, 0, false, 0, loads(at, 3))
	h := o.Wait()
	wantStep(t, m, h, false, 0, adds(at, 3))
	wantBegin(t, m, x, 0, true, 3, stores(first+2, 3, 0))
	wantStep(t, m, g, false, 0, adds(at, 4))
	for slot := range 2 {
		wantStep(t, m, g, false, slot+1, loads(first+slot, 0))
		wantStep(t, m, h, false, slot+1, loads(first+slot, 0))
	}
	wantAsked(t, m, g, 2, false)
	wantAsked(t, m, h, 2, false)
	wantLeave(t, m, o, 2, api.OK, stores(first+2, 0, 3))
	wantStep(t, m, g, true, -1, loads(first+2, 0))
	wantAsked(t, m, h, 2, true)
	wantStep(t, m, h, true, -1, loads(first+2, 0))
	wantRow(t, m, 5)
}

// Slots that lie across one another have the words in common, under other numbers.
func TestTwoThatShareSomeWords(t *testing.T) {
	m, s := standing(t, 3)
	o := over(t, m, at, first+1, 5)
	x := enter(t, o, 1) // the word first + 2: the slot 2 of s
	x.Step()
	wantBegin(t, m, x, 0, true, 3, stores(first+2, 3, 0))
	g := s.Wait()
	wantStep(t, m, g, false, 0, adds(at, 3))
	wantStep(t, m, g, false, 1, loads(first, 0))
	wantStep(t, m, g, false, 2, loads(first+1, 0))
	wantStep(t, m, g, false, 2, loads(first+2, 3))
	wantLeave(t, m, s, 2, api.OK, stores(first+2, 0, 3))
	wantStep(t, m, g, true, -1, loads(first+2, 0))
}

// Two memories share nothing.
func TestTwoMemories(t *testing.T) {
	m, s := standing(t, 3)
	o, r := standing(t, 8)
	x, y := enter(t, s, 0), enter(t, r, 0)
	wantBegin(t, m, x, 0, false, 0, loads(at, 3))
	wantBegin(t, o, y, 0, false, 0, loads(at, 8))
	wantBegin(t, o, y, 0, true, 8, stores(first, 8, 0))
	g := s.Wait()
	wantStep(t, m, g, false, 0, adds(at, 3))
	wantStep(t, m, g, false, 1, loads(first, 0))
	wantBegin(t, m, x, 0, true, 3, stores(first, 3, 0))
	wantRow(t, m, 4, 3)
	wantRow(t, o, 8, 8)
	if n := len(o.Trace()); n != 3 { // the epoch was written, two steps were made
		t.Errorf("the other memory's trace is %v", o.Trace())
	}
}
