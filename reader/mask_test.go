package reader_test

import (
	"math"
	"math/big"
	"testing"

	"gatehouse/reader"
)

// 23.3: the numbers, the columns and the mask

// In the chapter's page ann's number is the word 29, door's 19, open's 17; the columns are the word 13, the only mask the word 30.
const annAt, doorAt, openAt, columnsAt, maskAt = 29, 19, 17, 13, 30

// bitOf says whether a bit of an int is 1, reckoned by division.
func bitOf(word, bit int) bool {
	b := new(big.Int).Div(big.NewInt(int64(word)), new(big.Int).Lsh(big.NewInt(1), uint(bit))) // Euclid's: rounded down
	return b.Bit(0) == 1
}

// The action's number says which bit of the mask counts; from 1 to 16 all others make no difference.
func TestEachNumberOfAnAction(t *testing.T) {
	for z := 1; z <= 16; z++ {
		masks := append(corners(), 0xFFFF, 0xFFFE, 0x7FFF, 0x8000, 1<<16, -1<<16, -1<<15)
		for bit := range 17 {
			masks = append(masks, 1<<bit, ^(1 << bit), 0xFFFF^1<<bit)
		}
		for _, mask := range masks {
			s, c := small(t), cacheOf(t, 1, 1)
			set(s.Memory, openAt, z)
			set(s.Memory, maskAt, mask)
			x := openDoor(t, s, c)
			wantRun(t, s.Memory, x, 0, "1 4=1 0 10 "+throughPage+" 4=0")
			if mask == poison {
				wantTold(t, s.Memory, x, 2, reader.Answer{Broken: true, Version: 5, Page: 10})
				wantStats(t, c, 0, 1, 0, 0)
				continue
			}
			want := bitOf(mask, z-1)
			wantTold(t, s.Memory, x, 2, reader.Answer{Allowed: want, Version: 5, Page: 10})
			if allowed, there := c.Get(5, 2, 3, 1); allowed != want || !there {
				t.Errorf("the number %d, the mask %d: the cache says %v, %v", z, mask, allowed, there)
			}
		}
	}
}

// Another number breaks the check, with the step that loads the mask; no cache is told.
func TestNumbersThatNoActionHas(t *testing.T) {
	for _, z := range []int{0, 17, 18, 32, 33, 63, 64, 65, 80, 255, 256, 257, 1 << 16, 1<<16 + 1, 1<<32 + 1, -1, -2, -15, -16, -63, -64, math.MinInt, math.MinInt + 1, math.MaxInt, 1<<62 + 1} {
		for _, mask := range []int{0, 1, -1, 0xFFFF, 1 << 16, math.MinInt, math.MaxInt} {
			s, c := small(t), cacheOf(t, 1, 1)
			set(s.Memory, openAt, z)
			set(s.Memory, maskAt, mask)
			x := openDoor(t, s, c)
			wantSteps(t, s.Memory, x, 0, "1 4=1 0 10 11 28 29 18 19 16 17 13")
			wantTold(t, s.Memory, x, 2, reader.Answer{Version: 5, Page: 10})
			wantRun(t, s.Memory, x, 12, "30 4=0")
			wantTold(t, s.Memory, x, 2, reader.Answer{Broken: true, Version: 5, Page: 10})
			wantStats(t, c, 0, 1, 0, 0)
			if t.Failed() {
				t.Fatalf("the number %d, the mask %d", z, mask)
			}
		}
	}
}

// maskOf is the mask's address of the chapter's page, as sums and products that wrap round give it.
func maskOf(x, y, columns int) int {
	sum := big.NewInt(int64(x))
	sum.Sub(sum, big.NewInt(1))
	sum.Mul(sum, big.NewInt(int64(columns)))
	sum.Add(sum, big.NewInt(int64(y)))
	sum.Add(sum, big.NewInt(maskAt-1))
	sum.And(sum, new(big.Int).SetUint64(math.MaxUint64)) // of a number below 0, too, its lowest 64 bits
	return int(sum.Uint64())
}

// Classes and columns are whatever stands there: the mask is loaded where the sum says, within the page or not, and is refused outside of the memory.
func TestEachMasksAddress(t *testing.T) {
	list := append(corners(), 4, 5, 10, -9, -28, 64, 65, 1<<32+1, 1<<32, -1<<32)
	inside, outside := 0, 0
	for _, x := range list {
		for _, y := range list {
			for _, columns := range list {
				if x == poison || y == poison || columns == poison {
					continue // those loads are refused
				}
				s := small(t)
				for addr := 31; addr < 40; addr++ {
					set(s.Memory, addr, addr%2)
				}
				set(s.Memory, annAt, x)
				set(s.Memory, doorAt, y)
				set(s.Memory, columnsAt, columns)
				m := openDoor(t, s, nil)
				addr := maskOf(x, y, columns)
				wantSteps(t, s.Memory, m, 0, "1 4=1 0 10 11 28 29 18 19 16 17 13")
				words := allWords(t, s.Memory)
				wantRun(t, s.Memory, m, 12, numbers(addr)+" 4=0")
				want := reader.Answer{Broken: true, Version: 5, Page: 10}
				if outside++; addr >= 0 && addr < 40 {
					inside++
					want = reader.Answer{Allowed: words[addr]&1 == 1, Version: 5, Page: 10}
				}
				wantTold(t, s.Memory, m, 2, want)
				if t.Failed() {
					t.Fatalf("the classes %d and %d, %d columns", x, y, columns)
				}
			}
		}
	}
	if inside < 500 || outside-inside < 500 {
		t.Errorf("%d inside, %d in all: too few to tell", inside, outside)
	}
}

// Of a page with rows and columns each mask is loaded where it stands.
func TestRowsAndColumns(t *testing.T) {
	const places, rows, columns = 8, 5, 4
	for x := 1; x <= rows; x++ {
		for y := 1; y <= columns; y++ {
			words := append(table(places, 0), make([]int, rows*columns-1)...)
			words[2], words[3] = rows, columns
			put(words, 7, 9, x)
			put(words, 2, 14, y)
			put(words, 1, 7, 3)
			mask := 4 + 2*places + (x-1)*columns + y - 1
			words[mask] = 4
			s := hall(t, words)
			m := openDoor(t, s, nil)
			wantRun(t, s.Memory, m, 0, toTable+"28 29 18 19 16 17 13 "+numbers(pageAt+mask)+" 4=0")
			wantTold(t, s.Memory, m, 2, reader.Answer{Allowed: true, Version: 5, Page: 10})
		}
	}
}

// The rows are never asked for, and the version may be any int.
func TestWhatIsNotLookedAt(t *testing.T) {
	for _, word := range corners() {
		s := small(t)
		set(s.Memory, pageAt+2, word)
		x := openDoor(t, s, nil)
		wantRun(t, s.Memory, x, 0, "1 4=1 0 10 "+throughPage+" 4=0")
		wantTold(t, s.Memory, x, 2, reader.Answer{Allowed: true, Version: 5, Page: 10})
		if word == poison {
			continue
		}
		s, c := small(t), cacheOf(t, 1, 1)
		set(s.Memory, pageAt, word)
		x = openDoor(t, s, c)
		wantRun(t, s.Memory, x, 0, "1 4=1 0 10 "+throughPage+" 4=0")
		wantTold(t, s.Memory, x, 2, reader.Answer{Allowed: true, Version: word, Page: 10})
		if allowed, there := c.Get(word, 2, 3, 1); !allowed || !there {
			t.Errorf("the version %d: the cache says %v, %v", word, allowed, there)
		}
	}
}

// A page may lie anywhere, up to the memory's last word.
func TestPagesAnywhere(t *testing.T) {
	for at := 6; at <= 60; at++ {
		m := fresh(t, at+len(laid()))
		set(m, 0, at, 1)
		set(m, at, laid()...)
		s := &reader.Site{Memory: m, Slots: over(t, m, 2)}
		x := checkOf(t, s, 1, nil, 2, 3, 1)
		wantRun(t, m, x, 0, "1 5=1 0 "+numbers(at, at+1, at+18, at+19, at+8, at+9, at+6, at+7, at+3, at+20)+" 5=0")
		wantTold(t, m, x, 2, reader.Answer{Allowed: true, Version: 5, Page: at})
	}
}

// The current word may be any word, that of the page itself too.
func TestAnyCurrentWord(t *testing.T) {
	s := small(t)
	for _, current := range []int{2, 3, 6, 9, 31, 39} {
		set(s.Memory, current, pageAt)
		s.Current = current
		x := openDoor(t, s, nil)
		wantRun(t, s.Memory, x, 0, "1 4=1 "+numbers(current)+" 10 "+throughPage+" 4=0")
		wantTold(t, s.Memory, x, 2, reader.Answer{Allowed: true, Version: 5, Page: 10})
	}
	s.Current = slotsAt // the mark itself: the page would lie at the word 1
	x := openDoor(t, s, nil)
	wantRun(t, s.Memory, x, 0, "1 4=1 4 1 2 4=0")
	wantTold(t, s.Memory, x, 2, reader.Answer{Broken: true, Version: 1, Page: 1})
}
