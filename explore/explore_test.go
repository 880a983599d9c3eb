package explore_test

import (
	"iter"
	"reflect"
	"slices"
	"strconv"
	"strings"
	"testing"

	"gatehouse/api"
	"gatehouse/explore"
	"gatehouse/store"
)

// What the tests have in common, and the chapter's examples.

const small = "action open; subject ann; object door; allow ann on door: open;"

// door is the triple that small allows.
var door = api.Triple{Subject: "ann", Object: "door", Action: "open"}

func register() api.Op { return api.Op{Kind: api.OpRegister} }

func unregister() api.Op { return api.Op{Kind: api.OpUnregister} }

func version() api.Op { return api.Op{Kind: api.OpVersion} }

func check() api.Op { return api.Op{Kind: api.OpCheck, Triple: door} }

func revoke() api.Op { return api.Op{Kind: api.OpRevoke, Triple: door} }

func update(text string) api.Op { return api.Op{Kind: api.OpUpdate, Text: text} }

func apply(deltas ...api.Delta) api.Op { return api.Op{Kind: api.OpApply, Deltas: deltas} }

func restore() api.Op { return apply(api.Delta{Kind: api.DeltaRestore, Triple: door}) }

func newSubject() api.Op { return apply(api.Delta{Kind: api.DeltaSubject, Name: "eve", Trust: 0.5}) }

// bare is the configuration of the chapter's examples, example that of the document's examples of the whole.
func bare() api.Config { return api.Config{Text: small, Slots: 1, Words: 100, First: 5, Disk: 500} }

func example() api.Config {
	return api.Config{Text: small, Slots: 1, Sets: 1, Ways: 1, Words: 400, First: 1, Disk: 4000}
}

func flawed(c api.Config, flaw int) api.Config {
	c.Flaw = flaw
	return c
}

// two are the tasks of both.
func two() [][]api.Op { return [][]api.Op{{register(), check()}, {revoke()}} }

// list writes picks so: "0:15 1" is 15 times 0, and then 1.
func list(t *testing.T, text string) []int {
	t.Helper()
	var l []int
	for _, f := range strings.Fields(text) {
		task, times, many := strings.Cut(f, ":")
		if !many {
			times = "1"
		}
		n, err := strconv.Atoi(times)
		k, e := strconv.Atoi(task)
		if err != nil || e != nil {
			t.Fatalf("no picks: %q", text)
		}
		l = append(l, slices.Repeat([]int{k}, n)...)
	}
	return l
}

// written is the same the other way.
func written(picks []int) string {
	var parts []string
	for len(picks) > 0 {
		n := 1
		for n < len(picks) && picks[n] == picks[0] {
			n++
		}
		parts = append(parts, strconv.Itoa(picks[0])+":"+strconv.Itoa(n))
		picks = picks[n:]
	}
	return strings.Join(parts, " ")
}

// run is a pair that Runs has told.
type run struct {
	picks []int
	r     api.Run
}

// gone goes over the first pairs.
func gone(runs iter.Seq2[[]int, api.Run], most int) []run {
	var l []run
	if most == 0 {
		return l
	}
	for picks, r := range runs {
		l = append(l, run{picks, r})
		if len(l) == most {
			break
		}
	}
	return l
}

func toEnd(runs iter.Seq2[[]int, api.Run]) []run { return gone(runs, -1) }

func all(c api.Config, tasks [][]api.Op, switches int) []run {
	return toEnd(explore.Runs(c, tasks, switches))
}

func picksOf(runs []run) [][]int {
	var l [][]int
	for _, x := range runs {
		l = append(l, x.picks)
	}
	return l
}

// wantPicks asks for just these lists of picks.
func wantPicks(t *testing.T, what string, got, want [][]int) {
	t.Helper()
	for i := range max(len(got), len(want)) {
		switch {
		case i >= len(got):
			t.Errorf("%s: %d runs, want %d, the next one %s", what, len(got), len(want), written(want[i]))
			return
		case i >= len(want):
			t.Errorf("%s: %d runs, want %d, one more is %s", what, len(got), len(want), written(got[i]))
			return
		case !slices.Equal(got[i], want[i]):
			t.Errorf("%s: run %d is %s, want %s", what, i, written(got[i]), written(want[i]))
			return
		}
	}
}

// same says whether two runs tell the same.
func same(a, b api.Run) bool { return reflect.DeepEqual(nilled(a), nilled(b)) }

// nilled has no list in place of an empty one.
func nilled(r api.Run) api.Run {
	v := reflect.ValueOf(&r).Elem()
	for i := range v.NumField() {
		if f := v.Field(i); f.Kind() == reflect.Slice && f.Len() == 0 {
			f.SetZero()
		}
	}
	return r
}

// wantCount asks Count.
func wantCount(t *testing.T, c api.Config, tasks [][]api.Op, switches, most, want int, all bool) {
	t.Helper()
	if n, ok := explore.Count(c, tasks, switches, most); n != want || ok != all {
		t.Errorf("Count(%+v, %d tasks, %d, %d) = %d, %v, want %d, %v", c, len(tasks), switches, most, n, ok, want, all)
	}
}

// wantFound asks Find.
func wantFound(t *testing.T, c api.Config, tasks [][]api.Op, switches, most int, want api.Finding, code api.Errno) {
	t.Helper()
	f, e := explore.Find(c, tasks, switches, most)
	if !slices.Equal(f.Picks, want.Picks) || f.Breach != want.Breach || f.Runs != want.Runs || e != code {
		t.Errorf("Find(%+v, %d tasks, %d, %d) = {%s, %d, %d}, %v, want {%s, %d, %d}, %v", c, len(tasks), switches, most, written(f.Picks), f.Breach, f.Runs, e, written(want.Picks), want.Breach, want.Runs, code)
	}
}

// dice throws numbers, always the same ones.
type dice uint64

func (d *dice) throw(n int) int {
	*d = *d*6364136223846793005 + 1442695040888963407
	return int(uint64(*d>>33) % uint64(n))
}

func of[T any](d *dice, things []T) T { return things[d.throw(len(things))] }

// The chapter's examples, in their order.

func TestTheExampleWithoutASwitch(t *testing.T) {
	got := all(bare(), two(), 0)
	wantPicks(t, "no switch", picksOf(got), [][]int{list(t, "0:15 1:33"), list(t, "1:33 0:15")})
	for i, x := range got {
		if len(x.r.Events) != 3 || len(x.r.Versions) != 2 || x.r.Events[2-i].Allowed || x.r.Events[1+i].Allowed != (i == 0) {
			t.Errorf("run %d: %+v", i, x.r.Events)
		}
	}
}

func TestTheExamplesOfCount(t *testing.T) {
	wantCount(t, bare(), two(), 0, 2, 2, true)
	wantCount(t, bare(), two(), 0, 1, 0, false)
	wantCount(t, bare(), two(), 0, -1, 0, false)
}

func TestTheExampleWithASwitch(t *testing.T) {
	got := picksOf(gone(explore.Runs(bare(), two(), 1), 3))
	wantPicks(t, "one switch", got, [][]int{list(t, "0:15 1:33"), list(t, "0:14 1:30 0:1 1:3"), list(t, "0:13 1:30 0:2 1:3")})
}

func TestTheExamplesOfFind(t *testing.T) {
	wantFound(t, bare(), two(), 2, 10000, api.Finding{Runs: len(all(bare(), two(), 2))}, api.OK)
	if f, e := explore.Find(flawed(bare(), api.FlawNoWait), two(), 2, 10000); e != api.OK || f.Breach == api.BreachNone {
		t.Errorf("Find without a wait: %+v, %v", f, e)
	}
	c := bare()
	c.Slots = 0
	wantCount(t, c, two(), 2, 10000, 0, true)
	wantFound(t, c, two(), 2, 10000, api.Finding{}, api.ErrConfig)
}

func TestTheExampleOfNoTasks(t *testing.T) {
	for _, switches := range []int{-1, 0, 1, 7} {
		got := all(bare(), nil, switches)
		if len(got) != 1 || len(got[0].picks) != 0 || !same(got[0].r, store.Play(bare(), nil, nil)) {
			t.Errorf("%d switches: %+v", switches, got)
		}
	}
}

// DOC.md, 'Examples of the whole', 5.
func TestTheExampleOfAllOrders(t *testing.T) {
	for switches, want := range []int{2, 48, 908} {
		wantCount(t, example(), two(), switches, 10000, want, true)
		wantCount(t, bare(), two(), switches, 10000, want, true)
		wantFound(t, example(), two(), switches, 10000, api.Finding{Runs: want}, api.OK)
	}
}

// flawExample is a row of DOC.md, 'Examples of the whole', 6: the first run that breaks with a flaw, and how.
type flawExample struct {
	flaw     int
	tasks    [][]api.Op
	switches int
	picks    string
	breach   int8
}

func flawExamples() []flawExample {
	tag := [][]api.Op{{register(), check(), revoke(), newSubject(), check()}}
	noLock := [][]api.Op{{newSubject()}, {revoke()}}
	return []flawExample{
		{api.FlawNoWait, two(), 1, "0:14 1:31 0:1", api.BreachRevoked},
		{api.FlawTag, tag, 0, "0:86", api.BreachAnswer},
		{api.FlawEarly, two(), 1, "1:8 0:7 1:25", api.BreachAnswer},
		{api.FlawLate, two(), 1, "0:3 1:33 0:3", api.BreachAnswer},
		{api.FlawNoLock, noLock, 1, "0:27 1:30 0:4", api.BreachAnswer},
		{api.FlawEarlyDone, two(), 0, "0:15 1:33", api.BreachLive},
	}
}

func TestTheExamplesOfFlaws(t *testing.T) {
	for _, x := range flawExamples() {
		f, e := explore.Find(flawed(example(), x.flaw), x.tasks, x.switches, 10000)
		if !slices.Equal(f.Picks, list(t, x.picks)) || f.Breach != x.breach || e != api.OK {
			t.Errorf("flaw %d: {%s, %d, %d}, %v, want %s, %d", x.flaw, written(f.Picks), f.Breach, f.Runs, e, x.picks, x.breach)
		}
		if x.switches == 0 { // the table's number is the least one
			continue
		}
		n := len(all(flawed(example(), x.flaw), x.tasks, x.switches-1))
		wantFound(t, flawed(example(), x.flaw), x.tasks, x.switches-1, 10000, api.Finding{Runs: n}, api.OK)
	}
}
