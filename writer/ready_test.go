package writer_test

import (
	"testing"

	"gatehouse/api"
	"gatehouse/lock"
	"gatehouse/writer"
)

// 24.6

// held is the lock, held by somebody else.
func held(t *testing.T, b *bench) *lock.Waiter {
	t.Helper()
	w := b.Lock.Enter()
	w.Step()
	if !w.Step() {
		t.Fatal("the lock is not had")
	}
	return w
}

// enter begins a section in a slot.
func enter(t *testing.T, b *bench, slot int) {
	t.Helper()
	section, e := b.Slots.Enter(slot)
	must(t, "Enter", e)
	section.Step()
	section.Step()
}

// Who waits for nobody is ready ahead of each step, and behind the last one.
func TestReadyWhereNobodyIsInTheWay(t *testing.T) {
	for _, flaw := range flaws() {
		for _, op := range []api.Op{revoke(), update("?"), update(house), {}} {
			for _, words := range []int{47, 300} {
				b := begun(t, words, 500, flaw)
				x := made(t, b, op)
				wantReady(t, b, x, true)
				for now := 0; now < 200 && !x.Step(now); now++ {
					wantReady(t, b, x, true)
				}
				wantReady(t, b, x, true)
			}
		}
	}
}

// A lock that is held is waited for, however often one looks; the ticket is drawn all the same.
func TestALockThatIsHeld(t *testing.T) {
	for _, flaw := range []int{api.FlawNone, api.FlawNoWait, api.FlawEarly, api.FlawLate} {
		b := site(t, flaw)
		held(t, b)
		x, y := made(t, b, revoke()), made(t, b, update("?"))
		wantReady(t, b, x, true)
		wantSteps(t, b, x, 0, "2+1")
		wantReady(t, b, x, false)
		wantReady(t, b, y, true)
		wantSteps(t, b, y, 1, "2+1")
		for now := range 5 {
			wantReady(t, b, y, false)
			wantSteps(t, b, y, now, "3")
			wantReady(t, b, x, false)
			wantSteps(t, b, x, now, "3")
		}
		wantTold(t, b, x, -1, -1, writer.Outcome{})
		must(t, "Leave", b.Lock.Leave())
		wantReady(t, b, x, true)
		wantReady(t, b, y, false) // behind x
		wantSteps(t, b, y, 20, "3")
		wantSteps(t, b, x, 20, "3 0")
		wantTold(t, b, x, -1, -1, writer.Outcome{Old: 6})
		for now := range 200 {
			wantReady(t, b, y, false)
			if x.Step(now) {
				break
			}
		}
		wantReady(t, b, y, true)
		at := x.Outcome().Page
		if at != 27 {
			t.Errorf("the page lies at %d", at)
		}
		wantRun(t, b, y, 100, "3 0 27 3+1")
		wantTold(t, b, y, 101, -1, writer.Outcome{Code: api.ErrByte, Old: 27})
	}
}

// Sections that are open ahead of the grace period hold it up, slot by slot; such as begin behind its first step do not.
func TestSectionsThatAreOpen(t *testing.T) {
	b := benchOf(t, 100, 3, 500, 0)
	wantBegun(t, b, 5, load(t, small), 10)
	enter(t, b, 0)
	enter(t, b, 2)
	x := made(t, b, revoke())
	wantSteps(t, b, x, 0, "2+1 3 0 10 take:21@31 append:6 sync "+stores(31, revoked())+" 0=31")
	wantReady(t, b, x, true) // the epoch is raised whoever is there
	wantSteps(t, b, x, 29, "1+1")
	for now := range 4 {
		wantReady(t, b, x, false)
		wantSteps(t, b, x, 30+now, "4")
	}
	wantTold(t, b, x, 28, -1, writer.Outcome{Version: 6, Page: 31, Size: 21, Old: 10})
	must(t, "Leave", b.Slots.Leave(0))
	wantReady(t, b, x, true)
	enter(t, b, 0) // newer than the period
	enter(t, b, 1)
	wantReady(t, b, x, true)
	wantSteps(t, b, x, 40, "4 5")
	wantReady(t, b, x, false)
	wantSteps(t, b, x, 42, "6 6")
	must(t, "Leave", b.Slots.Leave(2))
	wantReady(t, b, x, true)
	wantSteps(t, b, x, 44, "6")
	enter(t, b, 2)
	wantReady(t, b, x, true)
	wantRun(t, b, x, 45, "free:10 3+1")
	wantTold(t, b, x, 28, 45, writer.Outcome{Version: 6, Page: 31, Size: 21, Old: 10})
}

// A section that is left in time is not waited for; nor is anybody by a write that is refused.
func TestSectionsThatAreNotWaitedFor(t *testing.T) {
	b := site(t, 0)
	enter(t, b, 0)
	x := made(t, b, update("?"))
	wantRun(t, b, x, 0, "2+1 3 0 6 3+1")
	x = made(t, b, revoke())
	wantSteps(t, b, x, 0, "2+1 3 0 6 take:21@27 append:6 sync "+stores(27, revoked())+" 0=27")
	must(t, "Leave", b.Slots.Leave(0))
	wantRun(t, b, x, 29, "1+1 4 free:6 3+1")
}

// Ready asks what stands there now, and no more than that: whoever is let on may be held up again.
func TestReadyIsOfNow(t *testing.T) {
	b := site(t, 0)
	x := made(t, b, revoke())
	wantSteps(t, b, x, 0, "2+1")
	for _, serving := range []int{1, -1, 0, 7, poison, 0} {
		set(b.Memory, servingAt, serving)
		wantReady(t, b, x, serving == 0)
	}
	wantSteps(t, b, x, 1, "3 0 6 take:21@27 append:6 sync "+stores(27, revoked())+" 0=27 1+1")
	for _, mark := range []int{1, 2, 0, -1, 3, 1, 0} {
		set(b.Memory, slotsAt, mark)
		wantReady(t, b, x, mark == 0 || mark >= 2)
	}
	wantRun(t, b, x, 40, "4 free:6 3+1")
}
