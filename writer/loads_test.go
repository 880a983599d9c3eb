package writer_test

import (
	"math"
	"slices"
	"strconv"
	"strings"
	"testing"

	"gatehouse/api"
	"gatehouse/writer"
)

// 24.3: the loads of the current word and of the version count as they come; so do all other accesses

// wantOutcome makes a write whose accesses are these, its moments counted from 0 on.
func wantOutcome(t *testing.T, b *bench, op api.Op, accesses string, point, freed int, want writer.Outcome) {
	t.Helper()
	x := made(t, b, op)
	wantRun(t, b, x, 0, accesses)
	wantTold(t, b, x, point, freed, want)
}

// A current word that cannot be loaded is 0 where there is none, and Poison where it is poisoned; Old is that, and the version is loaded there.
func TestACurrentWordThatIsRefused(t *testing.T) {
	for _, current := range []int{-1, 100, 1 << 32, math.MaxInt, math.MinInt, poison} {
		b := site(t, 0)
		b.Current = current
		set(b.Memory, 0, 0) // the version is loaded from there
		at := strconv.Itoa(current)
		wantFailed(t, b, update(""), api.ErrWorn, at+" 0", nil)
		wantFailed(t, b, revoke(), api.ErrUnknown, at+" 0", nil) // the book has nothing at 0
		wantFailed(t, b, apply(), api.ErrWorn, at+" 0", nil)
		if t.Failed() {
			t.Fatalf("the current word %d", current)
		}
	}
	for _, op := range []api.Op{update(small), apply()} {
		b := site(t, 0)
		b.Memory.Poison(0, 1)
		wantFailed(t, b, op, api.ErrWorn, "0 "+strconv.Itoa(poison), nil)
	}
}

// A version that cannot be loaded is 0 or Poison, behind neither of which there is one; the change is made all the same, and its refusal comes first.
func TestAVersionThatIsRefused(t *testing.T) {
	for _, old := range []int{-1, 100, 1 << 32, math.MaxInt, math.MinInt, 50} {
		b := site(t, 0)
		b.Memory.Poison(50, 1)
		set(b.Memory, 0, old)
		b.Book[old] = load(t, small)
		wantFailed(t, b, revoke(), api.ErrWorn, "0 "+strconv.Itoa(old), nil)
		wantFailed(t, b, apply(newSubject("bob")), api.ErrWorn, "0 "+strconv.Itoa(old), nil)
		wantFailed(t, b, apply(newSubject("ann")), api.ErrTwice, "0 "+strconv.Itoa(old), nil)
		wantFailed(t, b, update("subject zoe;"), api.ErrWorn, "0 "+strconv.Itoa(old), nil)
		wantFailed(t, b, update("?"), api.ErrByte, "0 "+strconv.Itoa(old), nil)
		delete(b.Book, old)
		wantFailed(t, b, revoke(), api.ErrUnknown, "0 "+strconv.Itoa(old), nil)
		wantFailed(t, b, apply(newSubject("ann")), api.ErrWorn, "0 "+strconv.Itoa(old), nil)
	}
}

// Where the current word names no page that is out, the write goes through, behind whatever stands there; nothing can be given back.
func TestACurrentWordThatNamesNoPage(t *testing.T) {
	b := site(t, 0)
	set(b.Memory, 0, 60)
	set(b.Memory, 60, 41)
	words := []int{42, 2, 0, 0, 0, 0, 0, 0}
	wantOutcome(t, b, update(""), "2+1 3 0 60 take:8@27 append:42 sync "+stores(27, words)+" 0=27 1+1 4 free:60! 3+1", 15, 18, writer.Outcome{Version: 42, Page: 27, Size: 8, Old: 60})
	wantPolicy(t, b, 27, load(t, ""))
	wantPolicy(t, b, 6, load(t, small))
	if b.Arena.Live() != 2 || len(b.Book) != 2 {
		t.Errorf("%d pieces are out, the book has %d pages", b.Arena.Live(), len(b.Book))
	}

	// The epoch's word as the current one, which is 1, and names itself.
	b = site(t, 0)
	b.Current = epochAt
	words[0] = 2
	wantOutcome(t, b, update(""), "2+1 3 1 1 take:8@27 append:2 sync "+stores(27, words)+" 1=27 1+1 4 free:1! 3+1", 15, 18, writer.Outcome{Version: 2, Page: 27, Size: 8, Old: 1})

	// No current word: 0 is loaded, and the word 0 names the version 6, which counts nowhere.
	b = site(t, 0)
	b.Current = -1
	words[0] = 7
	wantOutcome(t, b, apply(), "2+1 3 -1 0 take:8@27 append:7 sync "+stores(27, words)+" -1=27 1+1 4 free:0! 3+1", 15, 18, writer.Outcome{Version: 7, Page: 27, Size: 8})
	wantPolicy(t, b, 27, load(t, ""))

	// The middle of a piece that is out.
	b = site(t, 0)
	set(b.Memory, 0, 8)
	words[0] = 2
	wantOutcome(t, b, update(""), "2+1 3 0 8 take:8@27 append:2 sync "+stores(27, words)+" 0=27 1+1 4 free:8! 3+1", 15, 18, writer.Outcome{Version: 2, Page: 27, Size: 8, Old: 8})
}

// What the book has where the current word points is what is changed, whatever page stands there.
func TestTheBookSaysWhatIsChanged(t *testing.T) {
	b := site(t, 0)
	b.Book[6] = load(t, "subject zoe;")
	wantWrite(t, b, apply(newSubject("eve")), load(t, "subject zoe; subject eve trust 0.5;"))
	delete(b.Book, 27)
	wantWrite(t, b, apply(newSubject("eve")), load(t, "subject eve trust 0.5;"))
}

// The page that counts is found with the load of the current word, the version with the one behind it; what is written there behind these steps comes too late.
func TestWhatIsLoadedCounts(t *testing.T) {
	want := load(t, small+"except ann on door: open;")
	for _, flaw := range []int{api.FlawNone, api.FlawNoWait, api.FlawEarly, api.FlawNoLock} {
		b := site(t, flaw)
		p := planOf(t, b, want)
		list := strings.Fields(p.accesses())
		version := slices.Index(list, "0") + 1
		x := made(t, b, revoke())
		wantSteps(t, b, x, 0, strings.Join(list[:version], " "))
		set(b.Memory, 0, 50)
		wantSteps(t, b, x, version, "6")
		set(b.Memory, 6, 99)
		b.Book[6] = load(t, "")
		wantRun(t, b, x, version+1, strings.Join(list[version+1:], " "))
		wantTold(t, b, x, p.point(), p.freed(), p.outcome())
		wantPolicy(t, b, 27, want)
	}
}

// What is written ahead of these steps counts.
func TestWhatIsThereInTimeCounts(t *testing.T) {
	b := site(t, 0)
	x := made(t, b, apply(newSubject("eve")))
	wantSteps(t, b, x, 0, "2+1 3")
	set(b.Memory, 0, 50)
	wantSteps(t, b, x, 2, "0")
	set(b.Memory, 50, 70)
	b.Book[50] = load(t, "subject zoe;")
	words := pageOf(t, b, 71, load(t, "subject zoe; subject eve trust 0.5;"))
	wantRun(t, b, x, 3, "50 take:"+strconv.Itoa(len(words))+"@27 append:71 sync "+stores(27, words)+" 0=27 1+1 4 free:50! 3+1")
	wantPolicy(t, b, 27, load(t, "subject zoe; subject eve trust 0.5;"))
}

// Each access that is refused is made all the same: the ticket is drawn again, the lock is looked at again, words of the page and the current word are lost, the epoch and the slots are what was loaded, the lock is left.
func TestOtherAccessesThatAreRefused(t *testing.T) {
	page := stores(27, revoked())

	b := site(t, 0)
	b.Memory.Poison(nextAt, 2)
	x := made(t, b, revoke())
	wantSteps(t, b, x, 0, "2+1 2+1 2+1")
	wantReady(t, b, x, true)
	set(b.Memory, nextAt, 0)
	wantSteps(t, b, x, 3, "2+1 3 3")
	wantReady(t, b, x, false)
	set(b.Memory, servingAt, 0)
	wantReady(t, b, x, true)
	wantSteps(t, b, x, 6, "3 0 6 take:21@27 append:6 sync")
	b.Memory.Poison(30, 4)
	wantSteps(t, b, x, 12, page)
	b.Memory.Poison(0, 1)
	wantSteps(t, b, x, 33, "0=27")
	wantTold(t, b, x, 33, -1, writer.Outcome{Version: 6, Page: 27, Size: 21, Old: 6})
	wantPolicy(t, b, 27, load(t, small+"except ann on door: open;"))
	b.Memory.Poison(epochAt, 1)
	wantSteps(t, b, x, 34, "1+1")
	must(t, "Store", b.Memory.Store(slotsAt, poison)) // a mark older than the epoch, which is 1 more than Poison now
	wantReady(t, b, x, false)
	wantSteps(t, b, x, 35, "4 4")
	set(b.Memory, slotsAt, poison+1)
	wantReady(t, b, x, true)
	must(t, "Give", b.Arena.Give(6))
	b.Memory.Poison(servingAt, 1)
	wantRun(t, b, x, 37, "4 free:6! 3+1")
	wantTold(t, b, x, 33, 38, writer.Outcome{Version: 6, Page: 27, Size: 21, Old: 6})
}

// A piece that was given back by another is given back in vain.
func TestAPieceThatIsGone(t *testing.T) {
	b := begun(t, 100, 150, 0)
	x := made(t, b, revoke())
	wantSteps(t, b, x, 0, "2+1 3 0 6 take:21@27 append:6!")
	wantTold(t, b, x, 2, -1, writer.Outcome{Code: api.ErrFull, Old: 6})
	must(t, "Give", b.Arena.Give(27))
	wantRun(t, b, x, 6, "free:27! 3+1")
	wantTold(t, b, x, 2, -1, writer.Outcome{Code: api.ErrFull, Old: 6})
}
