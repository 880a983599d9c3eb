package reader_test

import (
	"strings"
	"testing"

	"gatehouse/api"
	"gatehouse/reader"
)

// 23.6

// A page is laid anew at the same address: with FlawTag the cache answers as the old one did, without it the new one is gone through.
func TestAPageLaidAnewAtTheSameAddress(t *testing.T) {
	for _, flaw := range flaws() {
		s, c := flawed(t, flaw), cacheOf(t, 1, 1)
		way := strings.Join(wayOf(flaw, false), " ")
		point := pointOf(flaw)
		x := openDoor(t, s, c)
		wantRun(t, s.Memory, x, 0, way)
		wantTold(t, s.Memory, x, point, reader.Answer{Allowed: true, Version: 5, Page: 10})

		anew := laid()
		anew[0], anew[20] = 7, 0
		set(s.Memory, pageAt, anew...)
		x = openDoor(t, s, c)
		if flaw == api.FlawTag {
			wantRun(t, s.Memory, x, 0, "1 4=1 0 10 4=0")
			wantTold(t, s.Memory, x, point, reader.Answer{Allowed: true, Hit: true, Version: 7, Page: 10})
			wantStats(t, c, 1, 1, 0, 1)
			continue
		}
		wantRun(t, s.Memory, x, 0, way)
		wantTold(t, s.Memory, x, point, reader.Answer{Version: 7, Page: 10})
		wantStats(t, c, 0, 2, 0, 1)
		if t.Failed() {
			t.Fatalf("flaw %d", flaw)
		}
	}
}

// With FlawTag the tag is the page's address: one version at another address is no hit.
func TestTheTagIsThePage(t *testing.T) {
	s, c := siteOf(t, 80, laid()...), cacheOf(t, 1, 8)
	s.Flaw = api.FlawTag
	m := s.Memory
	set(m, 40, laid()...)
	x := openDoor(t, s, c)
	wantRun(t, m, x, 0, "1 4=1 0 10 "+throughPage+" 4=0")
	set(m, 0, 40)
	x = openDoor(t, s, c)
	wantRun(t, m, x, 0, "1 4=1 0 40 41 58 59 48 49 46 47 43 60 4=0")
	wantTold(t, m, x, 2, reader.Answer{Allowed: true, Version: 5, Page: 40})
	wantStats(t, c, 0, 2, 0, 1)
	wantHeld(t, c, 40, annDoorOpen, true, true)

	for flaw, hits := range map[int]int{api.FlawTag: 1, api.FlawNone: 0, api.FlawLate: 0, api.FlawNoWait: 0} {
		s, c := flawed(t, flaw), cacheOf(t, 1, 1)
		c.Put(10, 2, 3, 1, false)
		x := openDoor(t, s, c)
		for now := 0; !x.Step(now); now++ {
		}
		if a := x.Answer(); a.Hit != (hits == 1) || a.Allowed != (hits == 0) || a.Broken || c.Stats().Hits != hits {
			t.Errorf("flaw %d: %+v, %+v", flaw, a, c.Stats())
		}
	}
}

// With FlawLate the current word is loaded ahead of the mark, by a check and by a version; each slot has its own.
func TestLate(t *testing.T) {
	for slot, at := range []string{"4", "5"} {
		s := flawed(t, api.FlawLate)
		x := checkOf(t, s, slot, nil, 2, 3, 1)
		wantSteps(t, s.Memory, x, 7, "0")
		wantTold(t, s.Memory, x, 7, reader.Answer{Page: 10})
		wantSteps(t, s.Memory, x, 8, "1 "+at+"=1")
		wantTold(t, s.Memory, x, 7, reader.Answer{Page: 10})
		wantSteps(t, s.Memory, x, 10, "10")
		wantTold(t, s.Memory, x, 7, reader.Answer{Version: 5, Page: 10})
		wantRun(t, s.Memory, x, 11, throughPage+" "+at+"=0")
		wantTold(t, s.Memory, x, 7, reader.Answer{Allowed: true, Version: 5, Page: 10})

		x = versionOf(t, s, slot)
		wantSteps(t, s.Memory, x, -3, "0")
		wantTold(t, s.Memory, x, -3, reader.Answer{Page: 10})
		wantRun(t, s.Memory, x, -2, "1 "+at+"=1 10 "+at+"=0")
		wantTold(t, s.Memory, x, -3, reader.Answer{Version: 5, Page: 10})
	}
}

// With FlawLate nobody waits for a reader that has looked: the page goes, and the check is broken. Without it the mark stands ahead of the look.
func TestWhatTheOrderIsFor(t *testing.T) {
	for _, flaw := range []int{api.FlawNone, api.FlawLate} {
		s := flawed(t, flaw)
		x := openDoor(t, s, nil)
		for point := 0; x.Point() < 0; point++ {
			x.Step(point)
		}
		set(s.Memory, 0, 35)
		grace := s.Slots.Wait()
		over := false
		for range 20 {
			over = over || grace.Step()
		}
		if over != (flaw == api.FlawLate) {
			t.Errorf("flaw %d: the grace period is over: %v", flaw, over)
		}
		if over {
			s.Memory.Poison(pageAt, 21)
		}
		for now := 50; !x.Step(now); now++ {
		}
		if a := x.Answer(); a.Broken != over || a.Allowed == over {
			t.Errorf("flaw %d: %+v", flaw, a)
		}
	}
}

// Other numbers are as 0, in each ending.
func TestOtherFlawsAreNone(t *testing.T) {
	for _, e := range endings() {
		if e.flaw != 0 {
			continue
		}
		for _, flaw := range flaws() {
			if flaw == api.FlawTag || flaw == api.FlawLate {
				continue
			}
			e.flaw = flaw
			s, _, x := e.ready(t)
			wantRun(t, s.Memory, x, 0, e.accesses)
			wantTold(t, s.Memory, x, e.point, e.answer)
		}
	}
}
