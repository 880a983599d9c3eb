package explore_test

import (
	"testing"

	"gatehouse/api"
	"gatehouse/explore"
	"gatehouse/judge"
	"gatehouse/store"
)

// 28.3: the first run that breaks a promise.

// at is the place of the first run that breaks, from 1 on, and how; 0, if none does.
func at(c api.Config, tasks [][]api.Op, switches int) (int, int8) {
	for i, x := range all(c, tasks, switches) {
		if b := judge.Breach(tasks, x.r); b != api.BreachNone {
			return i + 1, b
		}
	}
	return 0, api.BreachNone
}

// Find looks at no more runs than it may, and tells how many it has looked at.
func TestFindAtItsEdges(t *testing.T) {
	for _, x := range flawExamples() {
		c := flawed(example(), x.flaw)
		n, b := at(c, x.tasks, x.switches)
		want := api.Finding{Picks: list(t, x.picks), Breach: b, Runs: n}
		if b != x.breach {
			t.Errorf("flaw %d: breach %d", x.flaw, b)
		}
		for _, most := range []int{n, n + 1, 10000, 1<<63 - 1} {
			wantFound(t, c, x.tasks, x.switches, most, want, api.OK)
		}
		for _, most := range []int{n - 1, 0, -1, -1 << 63} {
			wantFound(t, c, x.tasks, x.switches, most, api.Finding{}, api.ErrMany)
		}
	}
}

// The runs of the examples are the 2nd, 1st, 23rd, 13th, 5th and 1st ones.
func TestTheNumberOfRunsOfTheExamples(t *testing.T) {
	for i, x := range flawExamples() {
		want := []int{2, 1, 23, 13, 5, 1}[i]
		wantFound(t, flawed(example(), x.flaw), x.tasks, x.switches, want, api.Finding{Picks: list(t, x.picks), Breach: x.breach, Runs: want}, api.OK)
	}
}

func TestFindNothing(t *testing.T) {
	for switches, n := range []int{2, 48, 908} {
		wantFound(t, example(), two(), switches, n, api.Finding{Runs: n}, api.OK)
		wantFound(t, example(), two(), switches, n+1, api.Finding{Runs: n}, api.OK)
		for _, most := range []int{n - 1, 1, 0, -1} {
			wantFound(t, example(), two(), switches, most, api.Finding{}, api.ErrMany)
		}
	}
	for _, tasks := range [][][]api.Op{nil, {nil}, {{}, {}}, {{register(), check(), revoke()}}} {
		wantFound(t, bare(), tasks, 3, 1, api.Finding{Runs: 1}, api.OK)
		wantFound(t, bare(), tasks, 3, 0, api.Finding{}, api.ErrMany)
		wantFound(t, bare(), tasks, 3, -1, api.Finding{}, api.ErrMany)
	}
}

func TestFindInAStoreThatIsRefused(t *testing.T) {
	for _, most := range []int{-1 << 63, -1, 0, 1, 1<<63 - 1} {
		for want, c := range refusedConfigs() {
			wantFound(t, c, two(), 2, most, api.Finding{}, want)
		}
		wantFound(t, bare(), make([][]api.Op, 65), 0, most, api.Finding{}, api.ErrMany)
		wantFound(t, bare(), [][]api.Op{make([]api.Op, 257)}, 0, most, api.Finding{}, api.ErrMany)
	}
}

// What is beyond most, or behind the run that was sought, is not gone through.
func TestFindKnowsEarly(t *testing.T) {
	wantFound(t, bare(), many(), 1000, 20, api.Finding{}, api.ErrMany)
	wantFound(t, bare(), many(), 1000, 0, api.Finding{}, api.ErrMany)
	tasks := append([][]api.Op{{register(), revoke()}}, many()[1:]...)
	f, e := explore.Find(flawed(bare(), api.FlawEarlyDone), tasks, 1000, 1<<62)
	if e != api.OK || f.Breach != api.BreachLive || f.Runs != 1 || len(f.Picks) != 34+2*63 {
		t.Errorf("%+v, %v", f, e)
	}
}

// All configurations of some tasks with each flaw, with up to two switches: Find tells what the judge says of the runs one by one.
func TestFindAsTheJudgeSays(t *testing.T) {
	found := map[int8]int{}
	for _, tasks := range [][][]api.Op{
		two(),
		{{register(), check(), revoke(), newSubject(), check()}},
		{{newSubject()}, {revoke()}},
		{{register(), version()}, {revoke(), restore()}},
		{{register(), check(), check()}, {revoke()}},
	} {
		for flaw := range 7 {
			for switches := range 2 {
				c := flawed(example(), flaw)
				runs := all(c, tasks, switches)
				f, e := broken(tasks, runs, len(runs))
				wantFound(t, c, tasks, switches, len(runs), f, e)
				found[f.Breach]++
				if f.Breach == api.BreachNone {
					continue
				}
				if b := judge.Breach(tasks, store.Play(c, tasks, f.Picks)); b != f.Breach || flaw == api.FlawNone {
					t.Errorf("flaw %d: %d, played again %d", flaw, f.Breach, b)
				}
				f, e = broken(tasks, runs, f.Runs-1)
				wantFound(t, c, tasks, switches, f.Runs-1, f, e)
			}
		}
	}
	if found[api.BreachNone] < 20 || found[api.BreachAnswer] < 5 || found[api.BreachRevoked] < 2 || found[api.BreachLive] < 5 {
		t.Errorf("%v", found)
	}
}
