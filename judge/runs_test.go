package judge_test

import (
	"slices"
	"testing"

	"gatehouse/api"
	"gatehouse/judge"
	"gatehouse/store"
)

// 27.10: runs of stores, without a flaw and with each one.

const small = "action open; subject ann; object door; allow ann on door: open;"

// door is the triple that small allows.
var door = api.Triple{Subject: "ann", Object: "door", Action: "open"}

func register() api.Op { return api.Op{Kind: api.OpRegister} }

func checkOf(t api.Triple) api.Op { return api.Op{Kind: api.OpCheck, Triple: t} }

func revokeOf(t api.Triple) api.Op { return api.Op{Kind: api.OpRevoke, Triple: t} }

func update(text string) api.Op { return api.Op{Kind: api.OpUpdate, Text: text} }

func apply(deltas ...api.Delta) api.Op { return api.Op{Kind: api.OpApply, Deltas: deltas} }

func newSubject(name string) api.Op {
	return apply(api.Delta{Kind: api.DeltaSubject, Name: name, Trust: 0.5})
}

func restoreOf(t api.Triple) api.Op { return apply(api.Delta{Kind: api.DeltaRestore, Triple: t}) }

// example is the configuration of the document's examples of the whole, two its tasks.
func example() api.Config {
	return api.Config{Text: small, Slots: 1, Sets: 1, Ways: 1, Words: 400, First: 1, Disk: 4000}
}

func two() [][]api.Op { return [][]api.Op{{register(), checkOf(door)}, {revokeOf(door)}} }

func played(t *testing.T, c api.Config, tasks [][]api.Op, picks []int) api.Run {
	t.Helper()
	r := store.Play(c, tasks, picks)
	if r.Code != api.OK {
		t.Fatalf("Play(%+v): %v", c, r.Code)
	}
	return r
}

// byPoints are the calls' places, in the order of their events' points.
func byPoints(r api.Run, places []int) []int {
	order := rising(len(places))
	slices.SortFunc(order, func(a, b int) int { return r.Events[places[a]].Point - r.Events[places[b]].Point })
	return order
}

// wantKept asks that a run breaks nothing, and that its calls have a right order: by their points. It gives the number of calls.
func wantKept(t *testing.T, tasks [][]api.Op, r api.Run) int {
	t.Helper()
	if b := wantReckoned(t, tasks, r); b != api.BreachNone {
		t.Fatalf("Breach = %d: %+v, %+v", b, tasks, r)
	}
	calls, places := judge.Calls(tasks, r)
	first := r.Versions[0].Policy
	order := byPoints(r, places)
	if !judge.Follows(first, calls, order) || !isRight(calls, table(first, calls), order) {
		t.Fatalf("the calls %+v do not follow by their points, %v", calls, order)
	}
	if len(calls) > api.MaxJudged {
		return len(calls)
	}
	found, there, e := judge.Linear(first, calls)
	if !there || e != api.OK || !judge.Follows(first, calls, found) || slices.Compare(found, order) > 0 {
		t.Fatalf("Linear = %v, %v, %v: %+v, by points %v", found, there, e, calls, order)
	}
	if len(calls) <= 7 {
		want, _ := firstByTables(first, calls)
		wantFirst(t, first, calls, want, true)
	}
	return len(calls)
}

// DOC.md, 'Examples of the whole', 6: the first run with each flaw that breaks, and how. Without the flaw it breaks nothing.
func TestTheExamplesOfFlaws(t *testing.T) {
	tag := [][]api.Op{{register(), checkOf(door), revokeOf(door), newSubject("eve"), checkOf(door)}}
	noLock := [][]api.Op{{newSubject("eve")}, {revokeOf(door)}}
	for _, x := range []struct {
		flaw  int
		tasks [][]api.Op
		picks string
		want  int8
	}{
		{api.FlawNoWait, two(), "0:14 1:31 0:1", api.BreachRevoked},
		{api.FlawTag, tag, "0:86", api.BreachAnswer},
		{api.FlawEarly, two(), "1:8 0:7 1:25", api.BreachAnswer},
		{api.FlawLate, two(), "0:3 1:33 0:3", api.BreachAnswer},
		{api.FlawNoLock, noLock, "0:27 1:30 0:4", api.BreachAnswer},
		{api.FlawEarlyDone, two(), "0:15 1:33", api.BreachLive},
	} {
		c := example()
		c.Flaw = x.flaw
		r := played(t, c, x.tasks, list(t, x.picks))
		if b := wantReckoned(t, x.tasks, r); b != x.want {
			t.Errorf("flaw %d: Breach = %d, want %d", x.flaw, b, x.want)
		}
		wantKept(t, x.tasks, played(t, example(), x.tasks, list(t, x.picks)))
	}
}

// DOC.md, 'Examples of the whole', 3 and 4, as calls.
func TestTheExamplesAsCalls(t *testing.T) {
	for picks, want := range map[string][]int{"0:15 1:33": {0, 1}, "1:33 0:15": {0, 1}, "0:4 1:30 0:11 1:3": {0, 1}, "1:30 0:15 1:3": {0, 1}, "1:27 0:15 1:6": {1, 0}, "1:20": nil, "1:29": {0}, "0:15 1:29": {0, 1}, "0:15 1:20": {0}} {
		r := played(t, example(), two(), list(t, picks))
		calls, places := judge.Calls(two(), r)
		for _, c := range calls {
			if c.Triple != door && !c.Write || c.Write && (c.Failed || len(c.Policy.Excepts) != 1) {
				t.Errorf("%s: %+v", picks, c)
			}
		}
		order, there, e := judge.Linear(r.Versions[0].Policy, calls)
		if !there || e != api.OK || len(calls) != len(want) || len(places) != len(want) {
			t.Errorf("%s: %+v at %v, Linear = %v, %v, %v, want %v", picks, calls, places, order, there, e, want)
		}
		if got := byPoints(r, places); !slices.Equal(got, want) && len(want) > 0 {
			t.Errorf("%s: by points %v, want %v", picks, got, want)
		}
		wantKept(t, two(), r)
	}
}

// Each picks of the two tasks that go from one to the other three times.
func TestAllRunsOfThreeSwitches(t *testing.T) {
	broken := map[int]map[int8]int{}
	for flaw := api.FlawNone; flaw <= api.FlawEarlyDone; flaw++ {
		broken[flaw] = map[int8]int{}
		c := example()
		c.Flaw = flaw
		for a := range 16 {
			for b := range 35 {
				picks := slices.Concat(slices.Repeat([]int{0}, a), slices.Repeat([]int{1}, b), slices.Repeat([]int{0}, 8), slices.Repeat([]int{1}, 40), slices.Repeat([]int{0}, 16), slices.Repeat([]int{1}, 8))
				r := played(t, c, two(), picks[:len(picks)-b%9])
				broken[flaw][wantReckoned(t, two(), r)]++
				if flaw == api.FlawNone {
					wantKept(t, two(), r)
				}
			}
		}
	}
	for flaw, want := range map[int][]int8{api.FlawNone: {0}, api.FlawNoWait: {0, 1, 2}, api.FlawTag: {0}, api.FlawEarly: {0, 1}, api.FlawLate: {0, 1}, api.FlawEarlyDone: {4}} {
		for _, b := range want {
			if broken[flaw][b] == 0 {
				t.Errorf("flaw %d, breach %d: none of %v", flaw, b, broken[flaw])
			}
		}
	}
	if len(broken[api.FlawNone]) != 1 || len(broken[api.FlawTag]) != 1 {
		t.Errorf("%v", broken)
	}
}

// drawn are a configuration, tasks, and picks.
type drawn struct {
	c     api.Config
	tasks [][]api.Op
	picks []int
}

var drawnTexts = []string{
	small,
	small + "subject zoe; allow zoe on door : open;",
	"subject ann; object door; action open, read; role r; member ann : r; allow r on door : *;",
	"action open, read; subject ann trust 0.5; role clerk; object door; group all; member ann : clerk; part door : all; allow clerk on all : open above 0.25; deny ann on door : read;",
}

func drawTriple(d *dice) api.Triple {
	if !d.yes(4) {
		return door
	}
	return api.Triple{Subject: of(d, []string{"ann", "eve", "zoe"}), Object: of(d, []string{"door", "door", "gate"}), Action: of(d, []string{"open", "open", "read"})}
}

func drawOp(d *dice) api.Op {
	switch d.throw(16) {
	case 0:
		return update(of(d, drawnTexts))
	case 1:
		return update("?")
	case 2, 3:
		return restoreOf(drawTriple(d))
	case 4, 5:
		return newSubject(of(d, []string{"eve", "zoe", "ann"}))
	case 6, 7, 8:
		return revokeOf(drawTriple(d))
	case 9:
		return api.Op{Kind: of(d, []int8{1, 2, 7, 7, 0, 9}), Triple: door}
	}
	return checkOf(drawTriple(d))
}

// drawTight has checks of one triple and writes that take it away and bring it back, more of them, and little else.
func drawTight(d *dice, flaw int) drawn {
	x := drawn{c: example()}
	x.c.Slots, x.c.Sets, x.c.Disk, x.c.Flaw = 2, d.throw(2), 20000, flaw
	for range 2 + d.throw(2) {
		ops := []api.Op{register()}
		for range 3 + d.throw(10) {
			ops = append(ops, of(d, []api.Op{checkOf(door), checkOf(door), {Kind: api.OpVersion}, revokeOf(door), restoreOf(door), newSubject(of(d, []string{"eve", "zoe"}))}))
		}
		x.tasks = append(x.tasks, ops)
	}
	x.picks = drawPicks(d, len(x.tasks), 1500, 40)
	return x
}

// drawPicks has rows of picks of one task, and picks of no task between them.
func drawPicks(d *dice, tasks, most, longest int) []int {
	var picks []int
	task, often := 0, 1+d.throw(longest)
	for range d.throw(most) {
		if d.yes(often) {
			task = d.throw(tasks+2) - 1
		}
		picks = append(picks, task)
	}
	return picks
}

func draw(d *dice, flaw int) drawn {
	if d.yes(2) {
		return drawTight(d, flaw)
	}
	x := drawn{c: api.Config{
		Text:  of(d, drawnTexts[:3]),
		Slots: 1 + d.throw(3),
		Sets:  d.throw(3),
		Ways:  1 + d.throw(2),
		Words: of(d, []int{60, 80, 120, 300, 300}),
		First: of(d, []int{1, 5, api.MaxVersion - 1}),
		Disk:  of(d, []int{300, 2000, 8000, 8000}),
		Flaw:  flaw,
	}}
	for range 1 + d.throw(4) {
		ops := []api.Op{register()}
		if d.yes(3) {
			ops = nil
		}
		for range d.throw(6) {
			ops = append(ops, drawOp(d))
		}
		x.tasks = append(x.tasks, ops)
	}
	x.picks = drawPicks(d, len(x.tasks), 700, 30)
	return x
}

func TestDrawnRunsWithoutAFlaw(t *testing.T) {
	n := map[string]int{}
	for seed := range 3000 {
		d := dice(seed)
		x := draw(&d, api.FlawNone)
		r := store.Play(x.c, x.tasks, x.picks)
		if r.Code != api.OK {
			n["refused"]++
			continue
		}
		calls := wantKept(t, x.tasks, r)
		n["calls of twelve at most"] += min(1, calls/4) * (1 - calls/13)
		n["calls of more"] += min(1, calls/13)
		for _, e := range r.Events {
			n["revoked"] += one(e.Kind == api.OpRevoke && e.Ended >= 0 && e.Code == api.OK)
			n["in progress"] += one(e.Ended < 0)
			n["published and in progress"] += one(writes(e) && e.Ended < 0 && e.Point >= 0)
			n["failed"] += one(writes(e) && e.Ended >= 0 && e.Code != api.OK)
			n["allowed"] += one(e.Allowed)
			n["hit"] += one(e.Hit)
		}
	}
	for _, what := range []string{"calls of twelve at most", "calls of more", "revoked", "in progress", "published and in progress", "failed", "allowed", "hit"} {
		if n[what] < 100 {
			t.Errorf("%s: %d times: %v", what, n[what], n)
		}
	}
}

func one(yes bool) int {
	if yes {
		return 1
	}
	return 0
}

// With each flaw some run breaks a promise; and whatever a flaw has done, it is judged by the chapter's words.
func TestDrawnRunsWithEachFlaw(t *testing.T) {
	for flaw := api.FlawNoWait; flaw <= api.FlawEarlyDone; flaw++ {
		n := map[int8]int{}
		unlike := 0
		for seed := range 1200 {
			d := dice(100000*flaw + seed)
			x := draw(&d, flaw)
			r := store.Play(x.c, x.tasks, x.picks)
			if r.Code != api.OK {
				continue
			}
			n[wantReckoned(t, x.tasks, r)]++
			calls, _ := judge.Calls(x.tasks, r)
			if len(calls) > 7 || !mayAllBe(calls) {
				continue
			}
			want, there := firstByTables(r.Versions[0].Policy, calls)
			wantFirst(t, r.Versions[0].Policy, calls, want, there)
			unlike += one(!there)
		}
		t.Log("flaw", flaw, n, "no order of", unlike)
		if n[api.BreachNone] < 100 || n[api.BreachNone] > 1190 {
			t.Errorf("flaw %d: %v", flaw, n)
		}
	}
}

// What a run tells is spoiled a little: the judge goes by the chapter's words.
func TestSpoiledRuns(t *testing.T) {
	n := map[int8]int{}
	for seed := range 3000 {
		d := dice(7000000 + seed)
		x := draw(&d, api.FlawNone)
		r := store.Play(x.c, x.tasks, x.picks)
		if len(r.Events) == 0 {
			continue
		}
		e, v := &r.Events[d.throw(len(r.Events))], &r.Versions[d.throw(len(r.Versions))]
		for _, n := range []*int{&e.Task, &e.Began, &e.Ended, &e.Point, &e.Version, &v.Number, &v.Point, &v.Gone} {
			if d.yes(6) {
				*n += d.throw(9) - 4
			}
		}
		switch d.throw(10) {
		case 0:
			e.Allowed = !e.Allowed
		case 1:
			e.Broken = true
		case 2:
			e.Code = api.Errno(d.throw(2))
		case 3:
			e.Steps += d.throw(60)
		case 4:
			e.Ended = -1
		case 5:
			v.Policy = r.Versions[0].Policy
		case 6:
			r.Live[d.throw(len(r.Live))] += d.throw(3)
		case 7:
			r.Trace[d.throw(len(r.Trace))].Good = false
		case 8:
			v.Size = d.throw(30)
		case 9:
			v.Gone = -1
		}
		n[wantReckoned(t, x.tasks, r)]++
	}
	for breach := range int8(6) {
		if n[breach] < 20 {
			t.Errorf("the breach %d: %v", breach, n)
		}
	}
}
