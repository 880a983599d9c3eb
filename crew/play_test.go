package crew_test

import (
	"reflect"
	"slices"
	"strconv"
	"testing"

	"gatehouse/api"
	"gatehouse/crew"
	"gatehouse/store"
)

// 26.1: what crew.Play tells is what store.Play tells.

// wantRefused asks for a Code, all else empty, whatever the picks.
func wantRefused(t *testing.T, c api.Config, tasks [][]api.Op, picks []int, want api.Errno) {
	t.Helper()
	got := crew.Play(c, tasks, picks)
	if !reflect.DeepEqual(plain(got), api.Run{Code: want}) {
		t.Errorf("%d tasks, %d picks: %+v, want %v", len(tasks), len(picks), got, want)
	}
	wantSame(t, got, store.Play(c, tasks, picks))
}

// with is a configuration with one thing changed.
func with(change func(*api.Config)) api.Config {
	c := config()
	change(&c)
	return c
}

func TestWhatIsRefused(t *testing.T) {
	many := make([]int, api.MaxPicks+1)
	for _, x := range []struct {
		what  string
		c     api.Config
		tasks [][]api.Op
		code  api.Errno
	}{
		{"nothing", api.Config{}, nil, api.ErrConfig},
		{"17 slots, 65 tasks", with(func(c *api.Config) { c.Slots = 17 }), make([][]api.Op, 65), api.ErrConfig},
		{"a flaw below 0", with(func(c *api.Config) { c.Flaw = -1 }), tasks(), api.ErrConfig},
		{"the flaw 7", with(func(c *api.Config) { c.Flaw = 7 }), tasks(), api.ErrConfig},
		{"65 tasks, and a text that is none", with(func(c *api.Config) { c.Text = "?" }), make([][]api.Op, 65), api.ErrMany},
		{"257 operations", config(), [][]api.Op{nil, make([]api.Op, 257)}, api.ErrMany},
		{"a text that is none", with(func(c *api.Config) { c.Text = "?" }), tasks(), api.ErrByte},
		{"half a text", with(func(c *api.Config) { c.Text = "subject ann" }), tasks(), api.ErrSyntax},
		{"no room for the page", with(func(c *api.Config) { c.Words = 26 }), tasks(), api.ErrRoom},
		{"no room for the record", with(func(c *api.Config) { c.Disk = 81 }), tasks(), api.ErrFull},
	} {
		t.Run(x.what, func(t *testing.T) {
			wantRefused(t, x.c, x.tasks, nil, x.code)
			wantRefused(t, x.c, x.tasks, []int{0, 1, 7, -1}, x.code)
			wantRefused(t, x.c, x.tasks, many, x.code)
		})
	}
}

func TestTheMostPicks(t *testing.T) {
	most := make([]int, api.MaxPicks)
	for i := range most {
		most[i] = i%5 - 1
	}
	r := wantPlayed(t, config(), tasks(), most)
	if r.Code != api.OK || len(r.Tasks) != api.MaxPicks || len(r.Events) != 3 {
		t.Errorf("%v, %d moments, %d events", r.Code, len(r.Tasks), len(r.Events))
	}
	wantRefused(t, config(), tasks(), append(most, 0), api.ErrMany)
	wantRefused(t, config(), nil, append(most, 0), api.ErrMany)
}

func TestTheMostTasks(t *testing.T) {
	c := with(func(c *api.Config) { c.Slots, c.Words = 16, 4000 })
	most := slices.Repeat([][]api.Op{slices.Concat([]api.Op{register()}, slices.Repeat([]api.Op{check(door)}, 255))}, 64)
	var picks []int
	for n := range 30000 {
		picks = append(picks, n%64)
	}
	r := wantPlayed(t, c, most, picks)
	if len(r.Events) < 1000 {
		t.Errorf("%d events", len(r.Events))
	}
}

func TestNoTasksAndNoPicks(t *testing.T) {
	for _, l := range [][][]api.Op{nil, {}, {nil}, {{}, {}}, tasks()} {
		for _, picks := range [][]int{nil, {}, {0}, {-1}, {1}, {2, 2}} {
			r := wantPlayed(t, config(), l, picks)
			if r.Code != api.OK || len(r.Tasks) != len(picks) || len(r.Trace) != len(picks) {
				t.Errorf("%d tasks, the picks %v: %+v", len(l), picks, r)
			}
		}
	}
}

// A pick of no task, or of one that is done, is a moment like others.
func TestPicksThatAreNoSteps(t *testing.T) {
	least, greatest := -1<<63, 1<<63-1
	for _, none := range []int{-1, 2, 3, 64, least, greatest, least + 1, greatest - 1} {
		picks := []int{none, 0, none, none, 1, none, 0, 0, none}
		r := wantPlayed(t, config(), tasks(), picks)
		if !slices.Equal(r.Tasks, picks) {
			t.Errorf("the tasks are %v, want %v", r.Tasks, picks)
		}
		for i, access := range r.Trace {
			if (access == api.Access{}) != (picks[i] == none) {
				t.Errorf("the pick %d at the moment %d: %+v", picks[i], i, access)
			}
		}
	}
	r := wantPlayed(t, config(), tasks(), list(t, "0:20 1:40 0:3 1:3 -1"))
	for i, access := range r.Trace {
		idle := i >= 15 && i < 20 || i >= 53
		if (access == api.Access{}) != idle {
			t.Errorf("the moment %d: %+v", i, access)
		}
	}
	if r.Events[2].Steps != 33 {
		t.Errorf("the revoke's steps: %d", r.Events[2].Steps)
	}
}

// shortLists are all lists of so many picks from -1 to tasks.
func shortLists(tasks, n int) [][]int {
	if n == 0 {
		return [][]int{nil}
	}
	var all [][]int
	for _, l := range shortLists(tasks, n-1) {
		for task := -1; task <= tasks; task++ {
			all = append(all, append(slices.Clone(l), task))
		}
	}
	return all
}

func TestAllShortPicks(t *testing.T) {
	l := [][]api.Op{{register(), version(), unregister()}, {{Kind: 9}, register()}}
	for n := range 6 {
		for _, picks := range shortLists(len(l), n) {
			wantSame(t, crew.Play(config(), l, picks), picked(t, config(), l, picks))
			if t.Failed() {
				t.Fatalf("picks %v", picks)
			}
		}
	}
}

// All the places at which the one task can be broken into by the other one, with each flaw.
func TestEachFlaw(t *testing.T) {
	for flaw := range 7 {
		broken := 0
		for ahead := range 16 {
			for behind := range 35 {
				picks := slices.Concat(list(t, "0:"+strconv.Itoa(ahead)), list(t, "1:"+strconv.Itoa(behind)), list(t, "0:20 1:40"))
				c := with(func(c *api.Config) { c.Flaw = flaw })
				r := wantPlayed(t, c, tasks(), picks)
				if t.Failed() {
					t.Fatalf("flaw %d, picks %v", flaw, picks)
				}
				if len(r.Events) > 0 && slices.ContainsFunc(r.Events, func(e api.Event) bool { return e.Broken }) {
					broken++
				}
			}
		}
		if broken > 0 && flaw == api.FlawNone {
			t.Errorf("without a flaw %d checks are broken", broken)
		}
		if broken == 0 && flaw == api.FlawLate {
			t.Error("with the flaw 4 no check is broken")
		}
	}
}

// The document's runs with flaws (its examples of the whole, 6).
func TestTheDocumentsFlaws(t *testing.T) {
	writers := [][]api.Op{{apply(newSubject("eve"))}, {revoke(door)}}
	again := [][]api.Op{{register(), check(door), revoke(door), apply(newSubject("eve")), check(door)}}
	for _, x := range []struct {
		flaw  int
		tasks [][]api.Op
		picks string
	}{
		{api.FlawNoWait, tasks(), "0:14 1:31 0:1"},
		{api.FlawTag, again, "0:86"},
		{api.FlawEarly, tasks(), "1:8 0:7 1:25"},
		{api.FlawLate, tasks(), "0:3 1:33 0:3"},
		{api.FlawNoLock, writers, "0:27 1:30 0:4"},
		{api.FlawEarlyDone, tasks(), "0:15 1:33"},
	} {
		c := with(func(c *api.Config) { c.Flaw = x.flaw })
		r := wantPlayed(t, c, x.tasks, list(t, x.picks))
		c.Flaw = api.FlawNone
		if right := crew.Play(c, x.tasks, list(t, x.picks)); reflect.DeepEqual(right, r) {
			t.Errorf("the flaw %d changes nothing: %+v", x.flaw, r)
		}
	}
}
