package store_test

import (
	"math"
	"slices"
	"strings"
	"testing"

	"gatehouse/api"
	"gatehouse/store"
)

// 25.6, 25.7, 25.8

// Run may be asked at each moment: it tells the beginning of what it will tell, and changes nothing.
func TestRunAtEachMoment(t *testing.T) {
	c := config()
	c.Words, c.Disk, c.Sets, c.Ways = 200, 4000, 1, 1
	list := append(tasks(), []api.Op{register(), update("subject eve;")}, nil)
	order := picks(t, "0:3 1:8 2 0:2 2:9 5 3 1:30 0:12 2:40 1:9")
	s := made(t, c, list)
	for i := range len(order) + 1 {
		r := s.Run()
		wantSame(t, s.Run(), r)
		wantSame(t, store.Play(c, list, order[:i]), r)
		if r.Code != api.OK || !slices.Equal(r.Tasks, order[:i]) || len(r.Trace) != i || len(r.Live) != i {
			t.Errorf("behind %d moments: %+v", i, r)
		}
		if i < len(order) {
			s.Pick(order[i])
		}
	}
	quiet := made(t, c, list) // that was never asked
	for _, task := range order {
		quiet.Pick(task)
	}
	wantSame(t, quiet.Run(), s.Run())
}

// Events stand in the order in which they have begun, not in that of tasks, or of ends.
func TestTheOrderOfEvents(t *testing.T) {
	list := [][]api.Op{{register(), version()}, {register(), version(), unregister()}, {revoke(door)}}
	r := played(t, roomy(2), list, "2 1:3 0:2 1 2:3 0:9 1:9 2:50")
	var began, tasks []int
	for _, e := range r.Events {
		began, tasks = append(began, e.Began), append(tasks, e.Task)
	}
	if !slices.IsSorted(began) || !slices.Equal(tasks, []int{2, 1, 1, 0, 0, 1}) {
		t.Errorf("began %v, tasks %v", began, tasks)
	}
	for i, e := range r.Events {
		if r.Tasks[e.Began] != e.Task || e.Ended >= 0 && r.Tasks[e.Ended] != e.Task {
			t.Errorf("event %d: %+v", i, e)
		}
	}
}

// Steps, Live and Trace go together: of each event the steps are the task's picks from its beginning to its end.
func TestStepsAreThePicks(t *testing.T) {
	r := played(t, roomy(2), append(tasks(), []api.Op{register(), version()}), "0:2 2:4 1:10 7 0:3 2:2 1:9 0:20 9 1:40 0 1 2 2 2 2")
	for i, e := range r.Events {
		n := 0
		for now, task := range r.Tasks {
			if task == e.Task && now >= e.Began && (e.Ended < 0 || now <= e.Ended) {
				n++
			}
		}
		if e.Steps != n {
			t.Errorf("event %d: %d steps, want %d", i, e.Steps, n)
		}
	}
	live := 1
	for i, x := range r.Trace {
		switch {
		case x.Kind == api.AccessTake && x.Good:
			live++
		case x.Kind == api.AccessFree && x.Good:
			live--
		}
		if r.Live[i] != live {
			t.Errorf("moment %d: Live %d, want %d", i, r.Live[i], live)
		}
	}
}

// Play's refusals: New's first, then the picks.
func TestPlayIsRefused(t *testing.T) {
	long := make([]int, 1<<20+1)
	c := config()
	c.Text = "?"
	for _, x := range []struct {
		c     api.Config
		tasks int
		want  api.Errno
	}{{api.Config{}, 65, api.ErrConfig}, {c, 65, api.ErrMany}, {c, 1, api.ErrByte}, {config(), 64, api.ErrMany}, {config(), 0, api.ErrMany}} {
		wantSame(t, store.Play(x.c, make([][]api.Op, x.tasks), long), api.Run{Code: x.want})
	}
}

// As many picks as may be.
func TestAsManyPicksAsMayBe(t *testing.T) {
	list := slices.Repeat([]int{1}, 1<<20)
	list[0], list[1], list[2], list[3] = 0, 0, 0, 0
	r := store.Play(config(), tasks(), list)
	if r.Code != api.OK || len(r.Tasks) != 1<<20 || len(r.Trace) != 1<<20 || len(r.Live) != 1<<20 {
		t.Fatalf("%v, %d moments", r.Code, len(r.Tasks))
	}
	// The revoke looks in vain, again and again.
	if e := r.Events[2]; e.Ended != -1 || e.Steps != 1<<20-4 || e.Point != 32 {
		t.Errorf("%+v", e)
	}
	if x := r.Trace[1<<20-1]; x != (api.Access{Kind: api.AccessLoad, Addr: 4, Value: 1, Good: true}) {
		t.Errorf("the last access is %+v", x)
	}
}

func TestPlayOfNothing(t *testing.T) {
	for _, none := range [][]int{nil, {}} {
		wantSame(t, store.Play(config(), nil, none), made(t, config(), nil).Run())
		wantSame(t, store.Play(config(), tasks(), none), made(t, config(), tasks()).Run())
	}
}

// Recover takes the last record that is there whole, whatever comes behind it.
func TestRecover(t *testing.T) {
	texts := []string{"", textOf(t, load(t, house)), textOf(t, load(t, small))}
	var bytes string
	ends := []int{0}
	for i, text := range texts {
		bytes += frame(t, 10*i+1, text)
		ends = append(ends, len(bytes))
	}
	for n := range len(bytes) + 1 {
		c, e := store.Recover(great(), bytes[:n])
		whole := 0
		for _, end := range ends[1:] {
			if n >= end {
				whole++
			}
		}
		want, code := great(), api.OK
		if whole == 0 {
			want, code = api.Config{}, api.ErrTorn
		} else {
			want.Text, want.First = texts[whole-1], 10*(whole-1)+1
		}
		if c != want || e != code {
			t.Fatalf("Recover of %d bytes = %+v, %v, want %+v, %v", n, c, e, want, code)
		}
	}
	for _, rest := range []string{"x", "\xa5", strings.Repeat("\x00", 100), bytes[1:]} {
		if c, e := store.Recover(great(), bytes+rest); e != api.OK || c.First != 21 || c.Text != texts[2] {
			t.Errorf("Recover with %q behind = %+v, %v", rest, c, e)
		}
		if c, e := store.Recover(great(), rest+bytes); e != api.ErrTorn || c != (api.Config{}) {
			t.Errorf("Recover with %q ahead = %+v, %v", rest, c, e)
		}
	}
	// A byte that was turned into another one spoils its record, and the reading ends there.
	for i := range len(bytes) {
		spoilt := bytes[:i] + string(bytes[i]^4) + bytes[i+1:]
		whole := 0
		for _, end := range ends[1:] {
			if i >= end {
				whole++
			}
		}
		c, e := store.Recover(config(), spoilt)
		if whole == 0 && (e != api.ErrTorn || c != (api.Config{})) || whole > 0 && (e != api.OK || c.Text != texts[whole-1]) {
			t.Fatalf("Recover with the byte %d spoilt = %+v, %v", i, c, e)
		}
	}
}

// The last record counts, not the newest version; its text is taken as it stands; the configuration need not be one that may be.
func TestRecoverTakesWhatStandsThere(t *testing.T) {
	bytes := frame(t, 9, small) + frame(t, 3, "#\nsubject ann;;")
	if c, e := store.Recover(config(), bytes[:len(bytes)-1]); e != api.OK || c.Text != small || c.First != 9 {
		t.Errorf("Recover = %+v, %v", c, e)
	}
	bytes = frame(t, 9, small) + frame(t, 3, "# a remark\n   subject ann ;")
	for _, c := range []api.Config{{}, config(), {Text: "?", Slots: -1, Sets: math.MaxInt, Ways: -7, Words: math.MinInt, First: -5, Disk: -1, Flaw: 99}} {
		want := c
		want.Text, want.First = "# a remark\n   subject ann ;", 3
		if got, e := store.Recover(c, bytes); got != want || e != api.OK {
			t.Errorf("Recover(%+v) = %+v, %v", c, got, e)
		}
	}
	for _, v := range []int{1, 1<<31 - 1} {
		if c, e := store.Recover(config(), frame(t, v, "")); e != api.OK || c.First != v || c.Text != "" {
			t.Errorf("Recover of version %d = %+v, %v", v, c, e)
		}
	}
}

// A text that has a fault: its Code, and no configuration; also where an earlier record has none.
func TestRecoverOfFaults(t *testing.T) {
	for text, want := range map[string]api.Errno{"?": api.ErrByte, "subject ann": api.ErrSyntax, "member a : b;": api.ErrUnknown, "subject a, a;": api.ErrTwice, "subject a trust 7;": api.ErrNumber} {
		for _, ahead := range []string{"", frame(t, 1, small)} {
			if c, e := store.Recover(config(), ahead+frame(t, 2, text)); c != (api.Config{}) || e != want {
				t.Errorf("Recover of %q = %+v, %v, want %v", text, c, e, want)
			}
		}
		if c, e := store.Recover(config(), frame(t, 2, text)+frame(t, 3, small)); c.Text != small || e != api.OK { // an earlier one does not count
			t.Errorf("Recover behind %q = %+v, %v", text, c, e)
		}
	}
	for _, none := range []string{"", "\xa5", "x", frame(t, 1, small)[:79]} {
		if c, e := store.Recover(config(), none); c != (api.Config{}) || e != api.ErrTorn {
			t.Errorf("Recover of %q = %+v, %v", none, c, e)
		}
	}
}

// What a store has written down is recovered, and goes on from there.
func TestRecoverAndGoOn(t *testing.T) {
	c := roomy(2)
	r := finished(t, c, revoke(door), apply(newSubject("eve")))
	d, e := store.Recover(c, r.Disk)
	if e != api.OK {
		t.Fatalf("Recover: %v", e)
	}
	again := finished(t, d, register(), check(door), version(), apply(api.Delta{Kind: api.DeltaRestore, Triple: door}), check(door), version())
	if x := again.Events; x[1].Allowed || x[2].Version != 7 || !x[4].Allowed || x[5].Version != 8 || again.Versions[0].Number != 7 {
		t.Errorf("%+v", x)
	}
}

func TestCheckSteps(t *testing.T) {
	for _, x := range [][2]int{{0, 11}, {1, 11}, {4, 11}, {5, 11}, {6, 14}, {7, 14}, {8, 17}, {9, 17}, {21, 35}, {22, 38}, {72, 113}, {65536, 11 + 3*32766}, {-1, 11}, {-4, 11}, {-5, 11}, {-1 << 62, 11}, {math.MinInt, 11}, {math.MinInt + 3, 11}, {math.MinInt + 4, 11}} {
		if got := store.CheckSteps(x[0]); got != x[1] {
			t.Errorf("CheckSteps(%d) = %d, want %d", x[0], got, x[1])
		}
	}
	for _, size := range []int{math.MaxInt, math.MaxInt - 1, 1 << 62, 1<<62 + 1} { // sums that pass the greatest int wrap round
		half := uint64(size-4) / 2
		if got, want := store.CheckSteps(size), int(11+half+half+half); got != want {
			t.Errorf("CheckSteps(%d) = %d, want %d", size, got, want)
		}
	}
}

func TestWriteSteps(t *testing.T) {
	for _, x := range [][3]int{{0, 0, 11}, {21, 1, 33}, {21, 0, 32}, {0, 16, 27}, {8, 2, 21}, {-1, -1, 11}, {-1, 5, 16}, {5, -1, 16}, {math.MinInt, math.MinInt, 11}, {math.MinInt, 3, 14}, {3, math.MinInt, 14}, {65536, 16, 65563}} {
		if got := store.WriteSteps(x[0], x[1]); got != x[2] {
			t.Errorf("WriteSteps(%d, %d) = %d, want %d", x[0], x[1], got, x[2])
		}
	}
	most := uint64(math.MaxInt)
	for _, x := range [][3]int{{math.MaxInt, 0, int(most + 11)}, {0, math.MaxInt, int(most + 11)}, {math.MaxInt, math.MaxInt, int(2*most + 11)}, {math.MaxInt - 11, 0, math.MaxInt}, {math.MaxInt, math.MinInt, int(most + 11)}} {
		if got := store.WriteSteps(x[0], x[1]); got != x[2] {
			t.Errorf("WriteSteps(%d, %d) = %d, want %d", x[0], x[1], got, x[2])
		}
	}
}
