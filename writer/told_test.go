package writer_test

import (
	"math"
	"slices"
	"strings"
	"testing"

	"gatehouse/api"
	"gatehouse/writer"
)

// 24.7

// What is known behind each step of a write that goes through, and nothing ahead of its time.
func TestWhatIsToldBehindEachStep(t *testing.T) {
	for _, flaw := range flaws() {
		for _, first := range []int{0, 500, -500} {
			b := site(t, flaw)
			p := planOf(t, b, load(t, small+"except ann on door: open;"))
			list := strings.Fields(p.accesses())
			look := slices.Index(list, "0")
			x := made(t, b, revoke())
			for i, access := range list {
				want, point, freed := writer.Outcome{}, -1, -1
				if i > look {
					want.Old = 6
				}
				if i > p.point() {
					want, point = p.outcome(), first+p.point()
				}
				if i > p.freed() {
					freed = first + p.freed()
				}
				wantTold(t, b, x, point, freed, want)
				wantRow(t, b, x, first+i, []string{access}, i == len(list)-1)
			}
			wantTold(t, b, x, first+p.point(), first+p.freed(), p.outcome())
		}
	}
}

// The same of a write that is refused: the Code and the point are known with the step that was refused, ahead of what is left.
func TestWhatIsToldOfARefusedWrite(t *testing.T) {
	for _, flaw := range flaws() {
		for _, c := range []struct {
			words, room int
			op          api.Op
			code        api.Errno
			accesses    string
			refused     int // the place of the step that is, counted from the load of the current word on
		}{
			{100, 500, update("?"), api.ErrByte, "0 6", 1},
			{100, 500, api.Op{}, api.ErrArg, "0 6", 1},
			{47, 500, revoke(), api.ErrRoom, "0 6 take:21!", 2},
			{100, 190, revoke(), api.ErrFull, "0 6 take:21@27 append:6! free:27", 3},
		} {
			b := begun(t, c.words, c.room, flaw)
			list := strings.Fields(withLock(flaw, c.accesses))
			look := slices.Index(list, "0")
			x := made(t, b, c.op)
			for i, access := range list {
				want, point := writer.Outcome{}, -1
				if i > look {
					want.Old = 6
				}
				if i > look+c.refused {
					want.Code, point = c.code, -300+look
				}
				wantTold(t, b, x, point, -1, want)
				wantRow(t, b, x, -300+i, []string{access}, i == len(list)-1)
			}
			wantTold(t, b, x, -300+look, -1, writer.Outcome{Code: c.code, Old: 6})
		}
	}
}

// The page of nothing that was given back has a moment too: the step was made.
func TestFreedOfAPageThatWasNotOut(t *testing.T) {
	for _, now := range []int{-1, 0, 9, math.MinInt, math.MaxInt} {
		b := site(t, 0)
		set(b.Memory, 0, 60)
		set(b.Memory, 60, 8)
		x := made(t, b, update(""))
		wantSteps(t, b, x, 0, "2+1 3 0 60 take:8@27 append:9 sync 27=9 28=2 29=0 30=0 31=0 32=0 33=0 34=0 0=27 1+1 4")
		wantTold(t, b, x, 15, -1, writer.Outcome{Version: 9, Page: 27, Size: 8, Old: 60})
		x.Step(now)
		wantTold(t, b, x, 15, now, writer.Outcome{Version: 9, Page: 27, Size: 8, Old: 60})
		wantRun(t, b, x, 100, "3+1")
	}
}

// An outcome is one's own: it stays as it was.
func TestOutcomesStay(t *testing.T) {
	b := site(t, 0)
	x := made(t, b, revoke())
	var told []writer.Outcome
	for now := 0; now < 200 && !x.Step(now); now++ {
		told = append(told, x.Outcome())
	}
	all := writer.Outcome{Version: 6, Page: 27, Size: 21, Old: 6}
	want := slices.Concat(slices.Repeat([]writer.Outcome{{}}, 2), slices.Repeat([]writer.Outcome{{Old: 6}}, 26), slices.Repeat([]writer.Outcome{all}, 4))
	if !slices.Equal(told, want) {
		t.Errorf("%+v, want %+v", told, want)
	}
}
