package reader_test

import (
	"math"
	"slices"
	"testing"

	"gatehouse/page"
	"gatehouse/reader"
)

// 23.3: the search

// keyOf is the key of a symbol: of the kind 1 a subject's, 2 an object's, 3 an action's.
func keyOf(symbol, kind int) int { return symbol*4 + kind }

// table is a page by hand, of version 5: all places are empty, one row and one column with this mask.
func table(places, mask int) []int {
	words := make([]int, 4+2*places+1)
	copy(words, []int{5, places, 1, 1})
	words[4+2*places] = mask
	return words
}

// put puts a key and its number at a place.
func put(words []int, place, key, number int) {
	words[4+2*place], words[5+2*place] = key, number
}

// at is the address of a place's key in a page at 10.
func at(place int) int { return pageAt + 4 + 2*place }

// around are the addresses of the keys from a place on, round the table, so many of them.
func around(first, places, n int) []int {
	var l []int
	for i := range n {
		l = append(l, at((first+i)%places))
	}
	return l
}

// hall is a site with a page by hand.
func hall(t *testing.T, words []int) *reader.Site {
	t.Helper()
	return siteOf(t, pageAt+len(words)+1, words...)
}

const toTable = "1 4=1 0 10 11 "

// powers are all numbers of places that a table may have.
func powers() []int { return []int{2, 4, 8, 16, 32, 64, 128, 256, 512, 1024, 2048, 4096} }

// notPowers are numbers of places that no table has.
func notPowers() []int {
	l := []int{0, 1, 3, 5, 6, 7, 9, 10, 12, 15, 17, 24, 100, 2047, 2049, 3072, 4095, 4097, 6144, 8192, 16384, 65536, 1 << 31, 1 << 32, 1<<32 + 2, 1 << 61, 1 << 62, math.MaxInt, math.MinInt, math.MinInt + 2, 1<<62 + 8}
	for _, n := range powers() {
		l = append(l, -n, -n-1)
	}
	return l
}

func TestTablesOfEachSize(t *testing.T) {
	for _, places := range powers() {
		words := table(places, 0)
		s := hall(t, words)
		for _, symbol := range []int{0, 1, 2, 77, -1} {
			x := checkOf(t, s, 0, nil, symbol, 3, 1)
			wantRun(t, s.Memory, x, 0, toTable+numbers(at(page.Hash(keyOf(symbol, 1), places)))+" 4=0")
			wantTold(t, s.Memory, x, 2, reader.Answer{Version: 5, Page: 10})
		}
	}
	for _, places := range notPowers() {
		s := small(t)
		set(s.Memory, pageAt+1, places)
		c := cacheOf(t, 1, 1)
		x := openDoor(t, s, c)
		wantRun(t, s.Memory, x, 0, toTable+"4=0")
		wantTold(t, s.Memory, x, 2, reader.Answer{Broken: true, Version: 5, Page: 10})
		wantStats(t, c, 0, 1, 0, 0)
		if t.Failed() {
			t.Fatalf("%d places", places)
		}
	}
}

// Each of the three keys is met so many places behind the one at which its search begins, round the table, behind words that are not it.
func TestAKeyBehindOthers(t *testing.T) {
	for _, places := range []int{4, 8, 16, 4096} {
		for kind := 1; kind <= 3; kind++ {
			for _, behind := range []int{0, 1, 2, 3, places / 2, places - 3, places - 2, places - 1} {
				words := table(places, 1)
				key := keyOf(annDoorOpen[kind-1], kind)
				first := page.Hash(key, places)
				for i := range behind {
					put(words, (first+i)%places, []int{keyOf(900+i, kind), -key, key + 4, math.MinInt, 1 << 61}[i%5], 9)
				}
				put(words, (first+behind)%places, key, 1)
				if !putOthers(words, kind) {
					continue
				}
				s := hall(t, words)
				x := openDoor(t, s, nil)
				accesses := slices.Concat(sought(words, 1), sought(words, 2), sought(words, 3), []int{pageAt + 3, pageAt + 4 + 2*places})
				wantRun(t, s.Memory, x, 0, toTable+numbers(accesses...)+" 4=0")
				wantTold(t, s.Memory, x, 2, reader.Answer{Allowed: true, Version: 5, Page: 10})
				if n := len(sought(words, kind)); n != behind+2 || t.Failed() {
					t.Fatalf("%d places, the kind %d, %d behind: %d accesses", places, kind, behind, n)
				}
			}
		}
	}
}

// annDoorOpen are the symbols of most checks; open's number is 1, as are the classes of ann and door.
var annDoorOpen = [3]int{2, 3, 1}

// putOthers puts the keys of the other kinds where the searches for them meet an empty place; false, if there is no room for one.
func putOthers(words []int, but int) bool {
	for kind := 1; kind <= 3; kind++ {
		if kind == but {
			continue
		}
		row := sought(words, kind)
		place := (row[len(row)-1] - at(0)) / 2
		if words[4+2*place] != 0 {
			return false
		}
		put(words, place, keyOf(annDoorOpen[kind-1], kind), 1)
	}
	return true
}

// sought are the addresses of the search for one of the three keys, by what layer 12 says of it: at how many places it looks, and whether it meets the key.
func sought(words []int, kind int) []int {
	number, looked := page.Look(words, annDoorOpen[kind-1], int8(kind))
	row := around(page.Hash(keyOf(annDoorOpen[kind-1], kind), words[1]), words[1], looked)
	if number != 0 {
		row = append(row, row[looked-1]+1)
	}
	return row
}

// A table that is full and has not the key is gone through once; the kinds ahead of it are met.
func TestAFullTableWithoutTheKey(t *testing.T) {
	for _, places := range powers() {
		for kind := 1; kind <= 3 && kind <= places; kind++ {
			words := table(places, 1)
			for k := 1; k < kind; k++ {
				row := sought(words, k)
				put(words, (row[len(row)-1]-at(0))/2, keyOf(annDoorOpen[k-1], k), 1)
			}
			for place := range places {
				if words[4+2*place] == 0 {
					put(words, place, keyOf(1000+place, 1+place%3), 1)
				}
			}
			var accesses []int
			for k := 1; k <= kind; k++ {
				accesses = append(accesses, sought(words, k)...)
			}
			s, c := hall(t, words), cacheOf(t, 1, 1)
			c.Put(4, 2, 3, 1, true)
			x := openDoor(t, s, c)
			wantRun(t, s.Memory, x, 0, toTable+numbers(accesses...)+" 4=0")
			wantTold(t, s.Memory, x, 2, reader.Answer{Version: 5, Page: 10})
			if allowed, there := c.Get(5, 2, 3, 1); allowed || !there {
				t.Errorf("the cache says %v, %v", allowed, there)
			}
			if n := len(sought(words, kind)); n != places || t.Failed() {
				t.Fatalf("%d places, the kind %d: %d accesses", places, kind, n)
			}
		}
	}
}

// An empty place ends the search, though the key stands behind it, and whatever number stands in it.
func TestAnEmptyPlaceEndsTheSearch(t *testing.T) {
	const places = 16
	key := keyOf(2, 1)
	first := page.Hash(key, places)
	for empty := range places - 1 {
		words := table(places, 1)
		for place := range places {
			put(words, place, keyOf(1000+place, 1), 1)
		}
		put(words, (first+empty)%places, 0, 1)
		put(words, (first+empty+1)%places, key, 1)
		s := hall(t, words)
		x := openDoor(t, s, nil)
		wantRun(t, s.Memory, x, 0, toTable+numbers(around(first, places, empty+1)...)+" 4=0")
		wantTold(t, s.Memory, x, 2, reader.Answer{Version: 5, Page: 10})
	}
}

// A key counts for its kind alone: the subject's key is not the object's, though one symbol names both.
func TestOneSymbolForAllThree(t *testing.T) {
	const places = 64
	for missing := range 4 {
		words := table(places, 1)
		var accesses []int
		for kind := 1; kind <= 3; kind++ {
			place := page.Hash(keyOf(7, kind), places)
			if kind != missing {
				put(words, place, keyOf(7, kind), 1)
			}
			if missing == 0 || kind <= missing {
				accesses = append(accesses, at(place))
			}
			if missing == 0 || kind < missing {
				accesses = append(accesses, at(place)+1)
			}
		}
		if missing == 0 {
			accesses = append(accesses, pageAt+3, pageAt+4+2*places)
		}
		s := hall(t, words)
		x := checkOf(t, s, 0, nil, 7, 7, 7)
		wantRun(t, s.Memory, x, 0, toTable+numbers(accesses...)+" 4=0")
		wantTold(t, s.Memory, x, 2, reader.Answer{Allowed: missing == 0, Version: 5, Page: 10})
	}
}

// Symbols are any ints: a key wraps round, and is sought where it begins; what is 2^62 more has the same key.
func TestAnySymbols(t *testing.T) {
	const places = 32
	for _, subject := range corners() {
		for _, object := range corners() {
			for _, action := range []int{1, 0, -1, math.MinInt, math.MaxInt, 1 << 62} {
				words := table(places, 1)
				var accesses []int
				for kind, symbol := range []int{subject, object, action} {
					key := keyOf(symbol, kind+1)
					place := page.Hash(key, places)
					for words[4+2*place] != 0 && words[4+2*place] != key {
						accesses = append(accesses, at(place))
						place = (place + 1) % places
					}
					put(words, place, key, 1)
					accesses = append(accesses, at(place), at(place)+1)
				}
				s := hall(t, words)
				accesses = append(accesses, pageAt+3, pageAt+4+2*places)
				for _, more := range []int{0, 1 << 62, math.MinInt} {
					x := checkOf(t, s, 0, nil, subject+more, object+more, action+more)
					wantRun(t, s.Memory, x, 0, toTable+numbers(accesses...)+" 4=0")
					wantTold(t, s.Memory, x, 2, reader.Answer{Allowed: true, Version: 5, Page: 10})
				}
				if t.Failed() {
					t.Fatalf("%d, %d, %d", subject, object, action)
				}
			}
		}
	}
}

// The word that is sought may change while it is sought: what each load brings counts.
func TestATableThatChanges(t *testing.T) {
	words := table(4, 1)
	for place := range 4 {
		put(words, place, 1001+4*place, 1)
	}
	first := page.Hash(keyOf(2, 1), 4)
	row := around(first, 4, 4)
	s := hall(t, words)
	x := openDoor(t, s, nil)
	wantSteps(t, s.Memory, x, 0, toTable+numbers(row[:3]...))
	for _, place := range row[:3] {
		set(s.Memory, place, keyOf(2, 1))
	}
	wantRun(t, s.Memory, x, 8, numbers(row[3])+" 4=0")

	s = hall(t, words)
	x = openDoor(t, s, nil)
	wantSteps(t, s.Memory, x, 0, toTable+numbers(row[0]))
	set(s.Memory, row[1], keyOf(2, 1))
	wantSteps(t, s.Memory, x, 6, numbers(row[1]))
	set(s.Memory, row[1], 0)
	set(s.Memory, pageAt+1, 2) // the table's size was loaded
	wantSteps(t, s.Memory, x, 7, numbers(row[1]+1, at(page.Hash(keyOf(3, 2), 4))))
	wantTold(t, s.Memory, x, 2, reader.Answer{Version: 5, Page: 10})
}
