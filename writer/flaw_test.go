package writer_test

import (
	"testing"

	"gatehouse/api"
	"gatehouse/writer"
)

// 24.5, in writes that go through access by access; step_test.go and refused_test.go go through all flaws too

func TestEachFlaw(t *testing.T) {
	page := stores(27, revoked())
	for _, c := range []struct {
		flaw         int
		accesses     string
		point, freed int
	}{
		{api.FlawNone, "2+1 3 0 6 take:21@27 append:6 sync " + page + " 0=27 1+1 4 free:6 3+1", 28, 31},
		{api.FlawNoWait, "2+1 3 0 6 take:21@27 append:6 sync " + page + " 0=27 free:6 3+1", 28, 29},
		{api.FlawTag, "2+1 3 0 6 take:21@27 append:6 sync " + page + " 0=27 1+1 4 free:6 3+1", 28, 31},
		{api.FlawEarly, "2+1 3 0 6 take:21@27 append:6 sync 0=27 " + page + " 1+1 4 free:6 3+1", 7, 31},
		{api.FlawLate, "2+1 3 0 6 take:21@27 append:6 sync " + page + " 0=27 1+1 4 free:6 3+1", 28, 31},
		{api.FlawNoLock, "0 6 take:21@27 append:6 sync " + page + " 0=27 1+1 4 free:6", 26, 29},
		{api.FlawEarlyDone, "2+1 3 0 6 take:21@27 append:6 sync " + page + " 0=27 1+1 4 free:6 3+1", 28, 31},
	} {
		b := site(t, c.flaw)
		x := made(t, b, revoke())
		wantRun(t, b, x, 0, c.accesses)
		wantTold(t, b, x, c.point, c.freed, writer.Outcome{Version: 6, Page: 27, Size: 21, Old: 6})
	}
}

// Refused at each place: the last step is the one ahead of the end with FlawNoLock, the end with all others.
func TestEachFlawInARefusedWrite(t *testing.T) {
	for _, flaw := range flaws() {
		b := site(t, flaw)
		wantFailed(t, b, update("?"), api.ErrByte, "0 6", nil)

		b = begun(t, 47, 500, flaw)
		wantFailed(t, b, revoke(), api.ErrRoom, "0 6 take:21!", nil)

		b = begun(t, 100, 190, flaw)
		wantFailed(t, b, revoke(), api.ErrFull, "0 6 take:21@27 append:6! free:27", func(s *state) {
			for i := range 21 {
				s.words[27+i] = poison
			}
		})
	}
}

// With FlawNoLock nobody's ticket is asked, and nobody is let in.
func TestWithoutTheLock(t *testing.T) {
	b := site(t, api.FlawNoLock)
	held := b.Lock.Enter()
	held.Step()
	held.Step()
	wantWrite(t, b, revoke(), load(t, small+"except ann on door: open;"))
	words := allWords(t, b.Memory)
	if words[nextAt] != 1 || words[servingAt] != 0 {
		t.Errorf("the lock's words are %v", words[nextAt:servingAt+1])
	}
}

// With FlawNoWait a section is not waited for, and the epoch stays.
func TestWithoutTheGracePeriod(t *testing.T) {
	b := site(t, api.FlawNoWait)
	section, e := b.Slots.Enter(0)
	must(t, "Enter", e)
	section.Step()
	section.Step()
	wantWrite(t, b, revoke(), load(t, small+"except ann on door: open;"))
	words := allWords(t, b.Memory)
	if words[epochAt] != 1 || words[slotsAt] != 1 {
		t.Errorf("the epoch is %d, the slot holds %d", words[epochAt], words[slotsAt])
	}
}

// With FlawEarly the page counts while its words are not there; without it they are.
func TestThePageAheadOfItsWords(t *testing.T) {
	for _, flaw := range []int{api.FlawNone, api.FlawEarly} {
		b := site(t, flaw)
		x := made(t, b, revoke())
		for now := 0; now < 200 && x.Point() < 0; now++ {
			x.Step(now)
		}
		word, _ := wordAt(b.Memory, 27)
		if word != map[int]int{api.FlawNone: 6, api.FlawEarly: 0}[flaw] {
			t.Errorf("flaw %d: the page begins with %d", flaw, word)
		}
		wantTold(t, b, x, x.Point(), -1, writer.Outcome{Version: 6, Page: 27, Size: 21, Old: 6})
		wantPolicy(t, b, 27, load(t, small+"except ann on door: open;"))
	}
}
