package reader_test

import (
	"strings"
	"testing"

	"gatehouse/api"
	"gatehouse/avc"
	"gatehouse/reader"
)

// 23.3 and 23.4: the cache

// wantHeld asks what a cache knows of a triple; asking counts.
func wantHeld(t *testing.T, c *avc.Cache, tag int, triple [3]int, allowed, there bool) {
	t.Helper()
	if yes, ok := c.Get(tag, triple[0], triple[1], triple[2]); yes != allowed || ok != there {
		t.Errorf("the cache says of %v with the tag %d %v, %v, want %v, %v", triple, tag, yes, ok, allowed, there)
	}
}

// The cache is asked at the end of the version's load, and told at the end of the step with which Allowed is known.
func TestWhenTheCacheIsAskedAndTold(t *testing.T) {
	s, c := small(t), cacheOf(t, 1, 1)
	x := openDoor(t, s, c)
	wantSteps(t, s.Memory, x, 0, "1 4=1 0")
	wantStats(t, c, 0, 0, 0, 0)
	wantSteps(t, s.Memory, x, 3, "10")
	wantStats(t, c, 0, 1, 0, 0)
	for now, access := range []string{"11", "28", "29", "18", "19", "16", "17", "13"} {
		wantSteps(t, s.Memory, x, 4+now, access)
		wantStats(t, c, 0, 1, 0, 0)
	}
	wantSteps(t, s.Memory, x, 12, "30")
	wantStats(t, c, 0, 1, 0, 1)
	wantHeld(t, c, 5, annDoorOpen, true, true)
	wantRun(t, s.Memory, x, 13, "4=0")
	wantStats(t, c, 1, 1, 0, 1)
}

// The same where a key is not there: it is known with the empty place.
func TestWhenTheCacheIsToldOfAKeyThatIsNotThere(t *testing.T) {
	for _, e := range []struct {
		triple        [3]int
		ahead, access string
	}{
		{[3]int{3, 3, 1}, toTable, "20"}, // door is no subject
		{[3]int{2, 2, 1}, toTable + "28 29", "26"},
		{[3]int{2, 3, 2}, toTable + "28 29 18 19", "24"},
	} {
		s, c := small(t), cacheOf(t, 1, 1)
		x := checkOf(t, s, 0, c, e.triple[0], e.triple[1], e.triple[2])
		wantSteps(t, s.Memory, x, 0, e.ahead)
		wantStats(t, c, 0, 1, 0, 0)
		wantSteps(t, s.Memory, x, 9, e.access)
		wantStats(t, c, 0, 1, 0, 1)
		wantHeld(t, c, 5, e.triple, false, true)
		wantRun(t, s.Memory, x, 10, "4=0")
		wantTold(t, s.Memory, x, 2, reader.Answer{Version: 5, Page: 10})

		x = checkOf(t, s, 0, c, e.triple[0], e.triple[1], e.triple[2])
		wantRun(t, s.Memory, x, 0, "1 4=1 0 10 4=0")
		wantTold(t, s.Memory, x, 2, reader.Answer{Hit: true, Version: 5, Page: 10})
	}
}

// What the cache says counts, whatever the page says: allowed or not.
func TestAHitIsTheAnswer(t *testing.T) {
	for _, allowed := range []bool{false, true} {
		for _, mask := range []int{0, 1} {
			s, c := small(t), cacheOf(t, 4, 2)
			set(s.Memory, maskAt, mask)
			c.Put(5, 2, 3, 1, allowed)
			x := openDoor(t, s, c)
			wantSteps(t, s.Memory, x, 0, "1 4=1 0 10")
			want := reader.Answer{Allowed: allowed, Hit: true, Version: 5, Page: 10}
			wantTold(t, s.Memory, x, 2, want)
			wantRun(t, s.Memory, x, 4, "4=0")
			wantTold(t, s.Memory, x, 2, want)
			wantStats(t, c, 1, 0, 0, 1)
			wantHeld(t, c, 5, annDoorOpen, allowed, true)
		}
	}
}

// A decision is the triple's own: its symbols in their places, and not their keys.
func TestAHitIsOfTheTripleItself(t *testing.T) {
	for _, other := range [][3]int{{3, 2, 1}, {2, 1, 3}, {1, 2, 3}, {1, 3, 2}, {3, 1, 2}, {2, 3, 0}, {2 + 1<<62, 3, 1}, {2, 3 - 1<<62, 1}, {9, 14, 7}} {
		s, c := small(t), cacheOf(t, 1, 8)
		c.Put(5, other[0], other[1], other[2], false)
		x := openDoor(t, s, c)
		wantRun(t, s.Memory, x, 0, "1 4=1 0 10 "+throughPage+" 4=0")
		wantTold(t, s.Memory, x, 2, reader.Answer{Allowed: true, Version: 5, Page: 10})
		wantStats(t, c, 0, 1, 0, 2)
		wantHeld(t, c, 5, annDoorOpen, true, true)
		wantHeld(t, c, 5, other, false, true)
	}
}

// A decision that was made by another version counts for nothing, and is replaced.
func TestTwoVersionsShareACache(t *testing.T) {
	s, c := siteOf(t, 80, laid()...), cacheOf(t, 1, 1)
	newer, m := laid(), s.Memory
	newer[0], newer[20] = 6, 0
	set(m, 40, newer...)
	const first, second = "11 28 29 18 19 16 17 13 30", "41 58 59 48 49 46 47 43 60"
	for round := range 3 {
		set(m, 0, 10)
		x := openDoor(t, s, c)
		wantRun(t, m, x, 0, "1 4=1 0 10 "+first+" 4=0")
		wantTold(t, m, x, 2, reader.Answer{Allowed: true, Version: 5, Page: 10})
		wantStats(t, c, 2*round, 2*round+1, 0, 1)
		x = openDoor(t, s, c)
		wantRun(t, m, x, 0, "1 4=1 0 10 4=0")
		wantTold(t, m, x, 2, reader.Answer{Allowed: true, Hit: true, Version: 5, Page: 10})

		set(m, 0, 40)
		x = openDoor(t, s, c)
		wantRun(t, m, x, 0, "1 4=1 0 40 "+second+" 4=0")
		wantTold(t, m, x, 2, reader.Answer{Version: 6, Page: 40})
		x = openDoor(t, s, c)
		wantRun(t, m, x, 0, "1 4=1 0 40 4=0")
		wantTold(t, m, x, 2, reader.Answer{Hit: true, Version: 6, Page: 40})
		wantStats(t, c, 2*round+2, 2*round+2, 0, 1)
	}
}

// A cache that is full throws out what its hand finds.
func TestAFullCache(t *testing.T) {
	s, c := small(t), cacheOf(t, 1, 1)
	for round := range 4 {
		x := openDoor(t, s, c)
		wantRun(t, s.Memory, x, 0, "1 4=1 0 10 "+throughPage+" 4=0")
		wantTold(t, s.Memory, x, 2, reader.Answer{Allowed: true, Version: 5, Page: 10})
		x = checkOf(t, s, 0, c, 2, 3, 2)
		wantRun(t, s.Memory, x, 0, toTable+"28 29 18 19 24 4=0")
		wantTold(t, s.Memory, x, 2, reader.Answer{Version: 5, Page: 10})
		wantStats(t, c, 0, 2*round+2, 2*round+1, 1)
	}
}

// Two machines of one cache, in step: both miss, both tell it; the next one hits.
func TestTwoMachinesOfOneCache(t *testing.T) {
	s, c := small(t), cacheOf(t, 2, 2)
	x, y := checkOf(t, s, 0, c, 2, 3, 1), checkOf(t, s, 1, c, 2, 3, 1)
	wantSteps(t, s.Memory, x, 0, "1 4=1 0 10")
	wantSteps(t, s.Memory, y, 0, "1 5=1 0")
	wantRun(t, s.Memory, x, 7, throughPage+" 4=0")
	wantSteps(t, s.Memory, y, 20, "10")
	wantTold(t, s.Memory, y, 2, reader.Answer{Allowed: true, Hit: true, Version: 5, Page: 10})
	wantRun(t, s.Memory, y, 21, "5=0")
	wantStats(t, c, 1, 1, 0, 1)

	c = cacheOf(t, 2, 2)
	x, y = checkOf(t, s, 0, c, 2, 3, 1), checkOf(t, s, 1, c, 2, 3, 1)
	wantSteps(t, s.Memory, x, 0, "1 4=1 0 10")
	wantSteps(t, s.Memory, y, 0, "1 5=1 0 10")
	wantRun(t, s.Memory, x, 7, throughPage+" 4=0")
	wantRun(t, s.Memory, y, 20, throughPage+" 5=0")
	wantTold(t, s.Memory, y, 2, reader.Answer{Allowed: true, Version: 5, Page: 10})
	wantStats(t, c, 0, 2, 0, 1)
}

// The tag is the version as it was loaded, whatever becomes of that word.
func TestTheTagIsWhatWasLoaded(t *testing.T) {
	for _, flaw := range []int{0, api.FlawTag, api.FlawLate} {
		s, c := flawed(t, flaw), cacheOf(t, 1, 4)
		way := wayOf(flaw, false)
		x := openDoor(t, s, c)
		wantSteps(t, s.Memory, x, 0, strings.Join(way[:4], " "))
		set(s.Memory, pageAt, 6)
		set(s.Memory, 0, 39)
		wantRun(t, s.Memory, x, 4, strings.Join(way[4:], " "))
		tag := 5
		if flaw == api.FlawTag {
			tag = 10
		}
		wantHeld(t, c, tag, annDoorOpen, true, true)
	}
}

// A check that is broken tells no cache, and what the cache had is what it has.
func TestABrokenCheckTellsNobody(t *testing.T) {
	s, c := small(t), cacheOf(t, 1, 1)
	set(s.Memory, openAt, 17)
	c.Put(5, 8, 8, 8, true)
	x := openDoor(t, s, c)
	wantRun(t, s.Memory, x, 0, "1 4=1 0 10 "+throughPage+" 4=0")
	wantTold(t, s.Memory, x, 2, reader.Answer{Broken: true, Version: 5, Page: 10})
	wantStats(t, c, 0, 1, 0, 1)
	wantHeld(t, c, 5, [3]int{8, 8, 8}, true, true)
}
