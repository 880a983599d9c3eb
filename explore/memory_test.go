package explore_test

import (
	"iter"
	"reflect"
	"slices"
	"strings"
	"sync"
	"testing"
	"unsafe"

	"gatehouse/api"
	"gatehouse/explore"
)

// R5 and R9: what is handed in, and what is told, is nobody else's, whatever is done between.

// scribble writes over all that the lists of a value have, and over their spare room.
func scribble(v reflect.Value) {
	switch v.Kind() {
	case reflect.Int, reflect.Int8:
		v.SetInt(99)
	case reflect.String:
		v.SetString("scribbled")
	case reflect.Bool:
		v.SetBool(!v.Bool())
	case reflect.Float64:
		v.SetFloat(0.99)
	case reflect.Struct:
		for i := range v.NumField() {
			scribble(v.Field(i))
		}
	case reflect.Slice:
		all := v.Slice(0, v.Cap())
		for i := range all.Len() {
			scribble(all.Index(i))
		}
	}
}

// places are where the texts and the lists of a value lie. What is told ("the" is said of what is handed in) must lie where nothing else does.
func places(t *testing.T, what string, v reflect.Value, seen map[unsafe.Pointer]string) {
	t.Helper()
	put := func(at unsafe.Pointer) {
		if other, there := seen[at]; there && !strings.HasPrefix(what, "the ") && !t.Failed() {
			t.Errorf("%s shares memory with %s", what, other)
		}
		seen[at] = what
	}
	switch v.Kind() {
	case reflect.String:
		if v.Len() > 1 { // texts of one byte are the same everywhere
			put(unsafe.Pointer(unsafe.StringData(v.String())))
		}
	case reflect.Struct:
		for i := range v.NumField() {
			places(t, what+"."+v.Type().Field(i).Name, v.Field(i), seen)
		}
	case reflect.Slice:
		all := v.Slice(0, v.Cap())
		for i := range all.Len() {
			x := all.Index(i)
			if x.Kind() != reflect.Struct && x.Kind() != reflect.Slice { // a struct lies where its first field does
				put(x.Addr().UnsafePointer())
			}
			places(t, what, x, seen)
		}
	}
}

// spare has room behind it in which something stands.
func spare[T any](things ...T) []T { return things[:len(things)-1] }

// whole has the lists of a value with their spare room.
func whole(tasks [][]api.Op) [][]api.Op {
	l := slices.Clone(tasks[:cap(tasks)])
	for i, ops := range l {
		l[i] = slices.Clone(ops[:cap(ops)])
		for k, op := range l[i] {
			l[i][k].Deltas = slices.Clone(op.Deltas[:cap(op.Deltas)])
			for n, d := range l[i][k].Deltas {
				l[i][k].Deltas[n].Rule.Actions = slices.Clone(d.Rule.Actions[:cap(d.Rule.Actions)])
			}
		}
	}
	return l
}

// wide are tasks of few runs that have something of each kind, with spare room.
func wide() [][]api.Op {
	rule := api.Rule{Who: "eve", What: "door", Actions: spare("open", "spare")}
	deltas := spare(
		api.Delta{Kind: api.DeltaSubject, Name: "eve", Trust: 0.5},
		api.Delta{Kind: api.DeltaAllow, Rule: rule},
		api.Delta{Kind: api.DeltaRole, Name: "clerk"},
		api.Delta{Kind: api.DeltaMember, Pair: api.Pair{From: "eve", To: "clerk"}},
		api.Delta{Kind: api.DeltaExcept, Triple: api.Triple{Subject: "eve", Object: "door", Action: "open"}},
		api.Delta{Kind: api.DeltaRole, Name: "spare"},
	)
	return spare(
		spare(register(), check(), apply(deltas...)),
		spare(revoke(), update(small), register()),
		spare(register(), version()),
		spare(update("spare"), update("spare too")),
	)
}

func wideConfig() api.Config {
	c := example()
	c.Text, c.Slots = strings.Clone(small), 2
	return c
}

// wantSame asks for the same pairs.
func wantSame(t *testing.T, what string, got, want []run) {
	t.Helper()
	wantPicks(t, what, picksOf(got), picksOf(want))
	for i := range min(len(got), len(want)) {
		if !same(got[i].r, want[i].r) {
			t.Errorf("%s: run %d is %+v, want %+v", what, i, got[i].r, want[i].r)
		}
	}
}

func TestWhatIsHandedInStays(t *testing.T) {
	tasks, was := wide(), wide()
	runs := all(wideConfig(), tasks, 1)
	n, ok := explore.Count(wideConfig(), tasks, 1, 10000)
	f, e := explore.Find(wideConfig(), tasks, 1, 10000)
	if n != len(runs) || !ok || f.Runs != n || e != api.OK || n < 50 {
		t.Errorf("%d runs, %d, %v, %+v, %v", len(runs), n, ok, f, e)
	}
	explore.Find(flawed(wideConfig(), api.FlawEarlyDone), tasks, 1, 10000)
	for _, x := range runs {
		scribble(reflect.ValueOf(x.picks))
		scribble(reflect.ValueOf(&x.r).Elem())
	}
	if !reflect.DeepEqual(whole(tasks), whole(was)) {
		t.Errorf("the tasks have become %+v", whole(tasks))
	}
}

// R9: what was handed in is written over behind the call, and between the pairs.
func TestTasksAreAsTheyWereAtTheCall(t *testing.T) {
	want := all(wideConfig(), wide(), 0)
	tasks := wide()
	runs := explore.Runs(wideConfig(), tasks, 0)
	scribble(reflect.ValueOf(tasks))
	wantSame(t, "written over behind the call", toEnd(runs), want)

	tasks = wide()
	runs = explore.Runs(wideConfig(), tasks, 0)
	for range 2 {
		var got []run
		for picks, r := range runs {
			got = append(got, run{picks, r})
			scribble(reflect.ValueOf(tasks))
			tasks[0], tasks[1] = tasks[1], nil
		}
		wantSame(t, "written over between", got, want)
	}
}

// The bytes of the texts that were handed in are written over too: a text that lies in memory that changes.
func TestTextsAreAsTheyWereAtTheCall(t *testing.T) {
	var bytes [][]byte
	text := func(s string) string {
		b := []byte(s)
		bytes = append(bytes, b)
		return unsafe.String(&b[0], len(b))
	}
	c := wideConfig()
	c.Text = text(small)
	triple := api.Triple{Subject: text("ann"), Object: text("door"), Action: text("open")}
	tasks := [][]api.Op{{register(), {Kind: api.OpCheck, Triple: triple}}, {{Kind: api.OpRevoke, Triple: triple}, update(text("subject eve;")), apply(api.Delta{Kind: api.DeltaRole, Name: text("clerk")})}}
	runs := explore.Runs(c, tasks, 0)
	want := toEnd(runs)
	for _, b := range bytes {
		for i := range b {
			b[i] = '?'
		}
	}
	c.Text = small
	plain := [][]api.Op{{register(), check()}, {revoke(), update("subject eve;"), apply(api.Delta{Kind: api.DeltaRole, Name: "clerk"})}}
	wantSame(t, "the texts are written over", toEnd(runs), all(c, plain, 0))
	wantSame(t, "what was told ahead of that", want, all(c, plain, 0))
}

// What is told is written over: it is new memory each time.
func TestWhatIsToldIsWrittenOver(t *testing.T) {
	want := all(wideConfig(), wide(), 1)
	runs := explore.Runs(wideConfig(), wide(), 1)
	for range 2 {
		i := 0
		for picks, r := range runs {
			if i >= len(want) || !slices.Equal(picks, want[i].picks) || !same(r, want[i].r) {
				t.Fatalf("run %d is %s: %+v", i, written(picks), r)
			}
			scribble(reflect.ValueOf(picks))
			if !same(r, want[i].r) {
				t.Fatalf("run %d has become %+v", i, r)
			}
			scribble(reflect.ValueOf(&r).Elem())
			i++
		}
		if i != len(want) {
			t.Errorf("%d runs, want %d", i, len(want))
		}
	}
	f, _ := explore.Find(flawed(example(), api.FlawNoWait), two(), 1, 100)
	for range 2 {
		next, _ := explore.Find(flawed(example(), api.FlawNoWait), two(), 1, 100)
		scribble(reflect.ValueOf(f.Picks))
		if !slices.Equal(next.Picks, list(t, "0:14 1:31 0:1")) {
			t.Errorf("the picks have become %s", written(next.Picks))
		}
		f = next
	}
}

func TestWhatIsToldSharesNothing(t *testing.T) {
	seen := map[unsafe.Pointer]string{}
	c, tasks := wideConfig(), wide()
	places(t, "the tasks", reflect.ValueOf(tasks), seen)
	places(t, "the configuration", reflect.ValueOf(c), seen)
	runs := explore.Runs(c, tasks, 0)
	for _, what := range []string{"the first time", "once more"} {
		for _, x := range toEnd(runs) {
			places(t, "picks, "+strings.TrimPrefix(what, "the "), reflect.ValueOf(x.picks), seen)
			places(t, "run, "+strings.TrimPrefix(what, "the "), reflect.ValueOf(x.r), seen)
		}
	}
	for range 2 {
		f, _ := explore.Find(flawed(c, api.FlawEarlyDone), tasks, 0, 10)
		places(t, "found", reflect.ValueOf(f), seen)
		if len(f.Picks) == 0 {
			t.Error("nothing is found")
		}
	}
	if len(seen) < 1000 {
		t.Errorf("%d places", len(seen))
	}
}

// R9: gone over again, stopped at each pair, and gone over within itself.
func TestRunsAgainAndStopped(t *testing.T) {
	want := all(example(), two(), 1)
	runs := explore.Runs(example(), two(), 1)
	for most := range len(want) + 2 {
		wantSame(t, "stopped", gone(runs, most), want[:min(most, len(want))])
	}
	wantSame(t, "from the start", toEnd(runs), want)
}

func TestRunsWithinThemselves(t *testing.T) {
	want := all(example(), two(), 1)
	runs := explore.Runs(example(), two(), 1)
	i := 0
	for picks, r := range runs {
		if i%5 == 0 {
			wantSame(t, "within", gone(runs, i), want[:i])
		}
		if !slices.Equal(picks, want[i].picks) || !same(r, want[i].r) {
			t.Errorf("run %d is %s", i, written(picks))
		}
		i++
	}
	if i != len(want) {
		t.Errorf("%d runs, want %d", i, len(want))
	}
	// two that go on in turn, one of them a step behind
	first, stopFirst := iter.Pull2(runs)
	second, stopSecond := iter.Pull2(runs)
	defer stopFirst()
	first()
	for i := range want[1:] {
		a, _, _ := first()
		b, _, _ := second()
		if !slices.Equal(a, want[i+1].picks) || !slices.Equal(b, want[i].picks) {
			t.Errorf("%s and %s, want %s and %s", written(a), written(b), written(want[i+1].picks), written(want[i].picks))
		}
	}
	stopSecond()
	if picks, _, more := first(); more {
		t.Errorf("one more is %s", written(picks))
	}
}

func TestRunsOfARefusedStoreAgain(t *testing.T) {
	for want, c := range refusedConfigs() {
		runs := explore.Runs(c, two(), 1)
		for range 2 {
			n := 0
			for picks, r := range runs {
				n++
				if len(picks) > 0 || !same(r, api.Run{Code: want}) {
					t.Errorf("%v: %v, %+v", want, picks, r)
				}
				if inner := gone(runs, 1); len(inner) != 1 || inner[0].r.Code != want {
					t.Errorf("%v: within %+v", want, inner)
				}
			}
			if n != 1 {
				t.Errorf("%v: %d pairs", want, n)
			}
		}
	}
}

// R3: goroutines that go over one iterator are told the same.
func TestRunsByManyGoroutines(t *testing.T) {
	want := all(wideConfig(), wide(), 0)
	runs := explore.Runs(wideConfig(), wide(), 0)
	got := make([][]run, 8)
	var done sync.WaitGroup
	for i := range got {
		done.Go(func() { got[i] = toEnd(runs) })
	}
	done.Wait()
	for _, l := range got {
		wantSame(t, "by a goroutine", l, want)
	}
}

// R4: no list and one without elements are the same.
func TestNoListAndEmptyOnes(t *testing.T) {
	for _, tasks := range [][][]api.Op{nil, {}, {nil}, {{}}, wide()[:0], {wide()[0][:0], nil}} {
		if got := all(bare(), tasks, 0); len(got) != 1 || len(got[0].picks) != 0 || len(got[0].r.Versions) != 1 {
			t.Errorf("%+v", got)
		}
	}
	one := []api.Op{{Kind: api.OpApply, Deltas: nil}}
	other := []api.Op{{Kind: api.OpApply, Deltas: []api.Delta{}}}
	wantSame(t, "no deltas", all(bare(), [][]api.Op{one, nil}, 0), all(bare(), [][]api.Op{other, {}}, 0))
}
