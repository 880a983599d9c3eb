package explore_test

import (
	"slices"
	"strings"
	"testing"

	"gatehouse/api"
	"gatehouse/explore"
	"gatehouse/store"
)

// 28.1: all runs with at most so many switches, each once, in their order.

func TestSwitchesBelowZeroAreNone(t *testing.T) {
	want := picksOf(all(example(), two(), 0))
	for _, switches := range []int{-1, -4, -1 << 63} {
		wantPicks(t, "below 0", picksOf(all(example(), two(), switches)), want)
		wantCount(t, example(), two(), switches, 2, 2, true)
		wantFound(t, example(), two(), switches, 2, api.Finding{Runs: 2}, api.OK)
	}
}

// Tasks that never wait: their runs are mixes of their steps, with any number of switches.
func TestRunsOfTasksThatNeverWait(t *testing.T) {
	for _, x := range []struct {
		tasks [][]api.Op
		steps []int
	}{
		{[][]api.Op{{register()}}, []int{1}},
		{[][]api.Op{{}, {register()}, nil, {register()}}, []int{0, 1, 0, 1}},
		{[][]api.Op{{check(), check(), check()}, {unregister(), version()}}, []int{3, 2}},
		{[][]api.Op{{check()}, {{Kind: 9}}, {{}}, {version()}}, []int{1, 1, 1, 1}},
		{[][]api.Op{{register(), version()}, {check(), {Kind: -3}, unregister()}}, []int{6, 3}},
		{[][]api.Op{{check(), unregister()}, {register(), version()}, {version(), check()}}, []int{2, 6, 2}},
		{[][]api.Op{{register(), {Kind: 9}, register()}, {check(), check()}, nil, {version(), version()}}, []int{3, 2, 0, 2}},
	} {
		for switches := range 10 {
			got := all(bare(), x.tasks, switches)
			wantPicks(t, "mixes", picksOf(got), mixed(x.steps, switches))
			for _, run := range got {
				if !same(run.r, store.Play(bare(), x.tasks, run.picks)) {
					t.Errorf("%s: %+v", written(run.picks), run.r)
				}
			}
		}
		wantPicks(t, "all mixes", picksOf(all(bare(), x.tasks, 1<<62)), mixed(x.steps, 1<<62))
	}
}

// Picks that are no switches: behind a task that is done, and behind one that waits; two writers of five steps each wait for one another, and a third task stands by.
func TestWhatIsNoSwitch(t *testing.T) {
	refused := update("?")
	writers := [][]api.Op{{refused}, {refused}}
	wantPicks(t, "two writers", picksOf(all(bare(), writers, 0)), [][]int{list(t, "0:5 1:5"), list(t, "1:5 0:5")})
	wantPicks(t, "two writers, a switch", picksOf(all(bare(), writers, 1)), [][]int{
		list(t, "0:5 1:5"), list(t, "0:4 1:1 0:1 1:4"), list(t, "0:3 1:1 0:2 1:4"), list(t, "0:2 1:1 0:3 1:4"), list(t, "0:1 1:1 0:4 1:4"),
		list(t, "1:1 0:1 1:4 0:4"), list(t, "1:2 0:1 1:3 0:4"), list(t, "1:3 0:1 1:2 0:4"), list(t, "1:4 0:1 1:1 0:4"), list(t, "1:5 0:5"),
	})
	three := [][]api.Op{{refused}, {refused}, {register()}}
	wantPicks(t, "a third one", picksOf(all(bare(), three, 0)), [][]int{
		list(t, "0:5 1:5 2:1"), list(t, "0:5 2:1 1:5"), list(t, "1:5 0:5 2:1"), list(t, "1:5 2:1 0:5"), list(t, "2:1 0:5 1:5"), list(t, "2:1 1:5 0:5"),
	})
	for _, x := range []struct {
		picks    string
		switches int
	}{
		{"0:4 1:1 0:1 1:4 2:1", 1}, {"0:4 1:1 0:1 2:1 1:4", 1}, {"0:4 1:1 2:1 0:1 1:4", 1},
		{"0:4 2:1 0:1 1:5", 1}, {"0:4 2:1 1:1 0:1 1:4", 1}, {"0:3 1:1 0:1 2:1 0:1 1:4", 2}, {"0:1 1:1 0:1 2:1 0:3 1:4", 2},
	} {
		for switches := range 4 {
			is := slices.ContainsFunc(all(bare(), three, switches), func(r run) bool { return slices.Equal(r.picks, list(t, x.picks)) })
			if is != (switches >= x.switches) {
				t.Errorf("%s is a run with %d switches: %v", x.picks, switches, is)
			}
		}
	}
}

// The revoke waits for the check: to go back to the check is no switch then.
func TestAWriterThatWaitsForAReader(t *testing.T) {
	for _, run := range all(example(), two(), 1) {
		rows := strings.Fields(written(run.picks))
		if len(rows) == 4 && rows[1] != "1:30" {
			t.Errorf("%s has more than one switch", written(run.picks))
		}
	}
	want := list(t, "1:27 0:4 1:3 0:11 1:3")
	for switches := range 3 {
		if is := slices.ContainsFunc(picksOf(all(example(), two(), switches)), func(picks []int) bool { return slices.Equal(picks, want) }); is != (switches >= 2) {
			t.Errorf("%s is a run with %d switches: %v", written(want), switches, is)
		}
	}
}

// Writers and readers with few switches, without a flaw and with each one, against the trial.
func TestRunsAgainstATrial(t *testing.T) {
	for _, x := range []struct {
		tasks    [][]api.Op
		switches int
	}{
		{two(), 1},
		{[][]api.Op{{revoke()}, {newSubject()}}, 0},
		{[][]api.Op{{update("?"), register()}, {update("?")}}, 3},
		{[][]api.Op{{update("?")}, {version(), restore()}}, 2},
		{[][]api.Op{{register(), version()}, {update("")}, {register()}}, 0},
	} {
		for flaw := api.FlawNone; flaw <= api.FlawEarlyDone; flaw++ {
			for switches := range x.switches + 1 {
				c := flawed(bare(), flaw)
				want, _ := tried(t, c, x.tasks, switches, 10000)
				wantTried(t, c, x.tasks, switches, want)
			}
		}
	}
}

// drawOp is one of few steps, or seldom a write that goes well.
func drawOp(d *dice) api.Op {
	switch d.throw(12) {
	case 0, 1, 2:
		return register()
	case 3:
		return unregister()
	case 4, 5:
		return version()
	case 6, 7:
		return of(d, []api.Op{check(), update(""), revoke(), newSubject()})
	case 8:
		return api.Op{Kind: int8(d.throw(20) - 10), Triple: door}
	case 9:
		return apply(api.Delta{Kind: 99})
	}
	return update("?")
}

type drawn struct {
	c        api.Config
	tasks    [][]api.Op
	switches int
}

// draw has no switches where the tasks are long.
func draw(d *dice) drawn {
	x := drawn{c: api.Config{
		Text:  of(d, []string{small, small, ""}),
		Slots: 1 + d.throw(2),
		Sets:  d.throw(2),
		Ways:  1,
		Words: of(d, []int{40, 80, 300, 300}),
		First: of(d, []int{1, 5, 5, api.MaxVersion}),
		Disk:  of(d, []int{100, 300, 4000, 4000}),
		Flaw:  of(d, []int{0, 0, 1, 2, 3, 4, 5, 6, 6}),
	}, switches: d.throw(5) - 1}
	for range of(d, []int{1, 2, 2, 2, 3}) {
		var ops []api.Op
		for range d.throw(4) {
			ops = append(ops, drawOp(d))
			if k := ops[len(ops)-1].Kind; k == api.OpRevoke || k == api.OpApply {
				x.switches = min(x.switches, 0)
			}
		}
		x.tasks = append(x.tasks, ops)
	}
	return x
}

func TestDrawnRuns(t *testing.T) {
	n := map[string]int{}
	for seed := range 400 {
		d := dice(seed)
		x := draw(&d)
		want, few := tried(t, x.c, x.tasks, max(x.switches, 0), 80)
		if !few {
			n["too many"]++
			continue
		}
		wantTried(t, x.c, x.tasks, x.switches, want)
		if t.Failed() {
			t.Fatalf("seed %d: %+v", seed, x)
		}
		n["one"] += one(len(want) == 1)
		n["some"] += one(len(want) > 1)
		n["many"] += one(len(want) > 10)
		f, _ := broken(x.tasks, want, len(want))
		n["broken"] += one(f.Breach != api.BreachNone)
		for _, r := range want {
			n["published"] += one(len(r.r.Versions) > 1)
			n["waited"] += one(looked(t, x.c, x.tasks, r.picks).waited)
		}
	}
	for _, what := range []string{"one", "some", "many", "broken", "published", "waited"} {
		if n[what] < 15 {
			t.Errorf("%s: %d times: %v", what, n[what], n)
		}
	}
}

func one(yes bool) int {
	if yes {
		return 1
	}
	return 0
}

// A store that is refused: one pair, with the Code alone.
func TestRunsOfAStoreThatIsRefused(t *testing.T) {
	for want, c := range refusedConfigs() {
		for _, switches := range []int{-1, 0, 3} {
			got := all(c, two(), switches)
			if len(got) != 1 || len(got[0].picks) != 0 || !same(got[0].r, api.Run{Code: want}) {
				t.Errorf("%v: %+v", want, got)
			}
		}
	}
	for _, tasks := range [][][]api.Op{make([][]api.Op, 65), {make([]api.Op, 257)}} {
		got := all(bare(), tasks, 0)
		if len(got) != 1 || len(got[0].picks) != 0 || !same(got[0].r, api.Run{Code: api.ErrMany}) {
			t.Errorf("ErrMany: %+v", got)
		}
	}
}

// refusedConfigs are by the number that store.New refuses them with.
func refusedConfigs() map[api.Errno]api.Config {
	l := map[api.Errno]api.Config{}
	for code, change := range map[api.Errno]func(c *api.Config){
		api.ErrConfig: func(c *api.Config) { c.Slots = 0 },
		api.ErrByte:   func(c *api.Config) { c.Text = "?" },
		api.ErrSyntax: func(c *api.Config) { c.Text = "subject ann" },
		api.ErrRoom:   func(c *api.Config) { c.Words = 26 },
		api.ErrFull:   func(c *api.Config) { c.Disk = 81 },
	} {
		c := bare()
		change(&c)
		l[code] = c
	}
	return l
}

// Tasks without operations, and a configuration whose numbers are the last ones.
func TestRunsOfTasksWithoutOperations(t *testing.T) {
	for _, tasks := range [][][]api.Op{{}, {nil}, {{}, {}}, make([][]api.Op, 64)} {
		for flaw := range 7 {
			got := all(flawed(bare(), flaw), tasks, 2)
			if len(got) != 1 || len(got[0].picks) != 0 || !same(got[0].r, store.Play(bare(), tasks, nil)) {
				t.Errorf("%d tasks: %+v", len(tasks), got)
			}
		}
	}
	tasks := make([][]api.Op, 64)
	tasks[63], tasks[7] = []api.Op{register()}, []api.Op{register()}
	wantPicks(t, "two of 64", picksOf(all(bare(), tasks, 0)), [][]int{{7, 63}, {63, 7}})
}

// many are tasks of so many runs that nobody would see their end.
func many() [][]api.Op {
	tasks := make([][]api.Op, 64)
	for i := range tasks {
		tasks[i] = []api.Op{version(), version()}
	}
	return tasks
}

// Whoever stops early has waited for no more.
func TestARunThatIsNotAskedForIsNotMade(t *testing.T) {
	want := slices.Repeat([]int{0, 0}, 64)
	for i := range want {
		want[i] = i / 2
	}
	got := gone(explore.Runs(bare(), many(), 1000), 2)
	next := slices.Clone(want)
	next[125], next[126] = 63, 62
	next2 := slices.Clone(want)
	next2[125], next2[126], next2[127] = 63, 63, 62
	wantPicks(t, "the first two", picksOf(got), [][]int{want, next})
	got = gone(explore.Runs(bare(), many(), 1000), 3)
	wantPicks(t, "the first three", picksOf(got), [][]int{want, next, next2})

	tasks := many()
	play := testing.AllocsPerRun(3, func() { store.Play(bare(), tasks, want) })
	for n := range 4 {
		made := testing.AllocsPerRun(3, func() { gone(explore.Runs(bare(), tasks, 1000), n) })
		if made > (float64(n)+0.5)*play || made < (float64(n)-0.5)*play {
			t.Errorf("%d runs have taken %v pieces of memory, one by picks takes %v", n, made, play)
		}
	}
}

// A run may be longer than what store.Play takes: sixteen tasks have all slots, and write as much as the disk holds; the others seek a slot in vain.
func TestARunOfManyPicks(t *testing.T) {
	text := ""
	for _, name := range strings.Split("a b c d e f g h i j k l m n o p q r s t u v w x y z A B C D E F G", " ") {
		text += "object " + name + ";"
	}
	writers := append([]api.Op{register()}, slices.Repeat([]api.Op{update(text)}, api.MaxOps-1)...)
	tasks := slices.Concat(slices.Repeat([][]api.Op{writers}, 16), slices.Repeat([][]api.Op{slices.Repeat([]api.Op{register()}, api.MaxOps)}, 48))
	c := bare()
	c.Slots, c.Words, c.Disk = 16, 1000, api.MaxDisk
	for picks, r := range explore.Runs(c, tasks, 0) {
		s, _ := store.New(c, tasks)
		for _, task := range picks {
			if !s.Ready(task) {
				t.Fatal("a task is not ready")
			}
			s.Pick(task)
		}
		if len(picks) <= api.MaxPicks || !same(s.Run(), r) {
			t.Errorf("%d picks, %d versions", len(picks), len(r.Versions))
		}
		for task := range tasks {
			if !s.Done(task) {
				t.Errorf("the task %d is not done", task)
			}
		}
		break
	}
}
