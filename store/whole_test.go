package store_test

import (
	"fmt"
	"slices"
	"strings"
	"testing"

	"gatehouse/api"
	"gatehouse/mean"
	"gatehouse/store"
)

// DOC.md, W1 to W4 and W14, asked of a run alone: what does not hold is complained of, with the promise's name ahead, so that a flaw can be seen to be one.

type judge struct {
	c     api.Config
	tasks [][]api.Op
	r     api.Run
	wrong []string
}

func judged(c api.Config, tasks [][]api.Op, r api.Run) []string {
	j := &judge{c: c, tasks: tasks, r: r}
	j.versions()
	j.pages()
	j.slots()
	for _, e := range r.Events {
		switch e.Kind {
		case api.OpCheck, api.OpVersion:
			j.read(e)
		case api.OpUpdate, api.OpApply, api.OpRevoke:
			j.write(e)
		}
	}
	return j.wrong
}

func (j *judge) complain(promise, format string, args ...any) {
	j.wrong = append(j.wrong, promise+": "+fmt.Sprintf(format, args...))
}

func (j *judge) op(e api.Event) api.Op { return j.tasks[e.Task][e.Number] }

// at is the version that counts at a moment.
func (j *judge) at(now int) api.Version {
	v := j.r.Versions[0]
	for _, x := range j.r.Versions[1:] {
		if x.Point < now {
			v = x
		}
	}
	return v
}

// put is the version that was published at a moment.
func (j *judge) put(now int) (api.Version, bool) {
	for _, v := range j.r.Versions[1:] {
		if v.Point == now {
			return v, true
		}
	}
	return api.Version{}, false
}

// largest is the size of the largest page that has counted.
func largest(r api.Run) int {
	size := 0
	for _, v := range r.Versions {
		size = max(size, v.Size)
	}
	return size
}

// versions follow one another, each put there by a write.
func (j *judge) versions() {
	for i, v := range j.r.Versions[1:] {
		if ahead := j.r.Versions[i]; v.Number != ahead.Number+1 || v.Point <= ahead.Point {
			j.complain("W1", "%d at %d comes behind %d at %d", v.Number, v.Point, ahead.Number, ahead.Point)
		}
		if !slices.ContainsFunc(j.r.Events, func(e api.Event) bool { return e.Point == v.Point && e.Kind != api.OpCheck && e.Kind != api.OpVersion }) {
			j.complain("W1", "nobody has put %d there", v.Number)
		}
	}
}

func (j *judge) pointLies(e api.Event) {
	if e.Point >= 0 && (e.Point < e.Began || e.Ended >= 0 && e.Point > e.Ended) {
		j.complain("W1", "the point does not lie within %+v", e)
	}
}

func (j *judge) read(e api.Event) {
	j.pointLies(e)
	most := store.CheckSteps(largest(j.r))
	if e.Steps > most || e.Steps == most && e.Ended < 0 {
		j.complain("W4", "%d steps of %d: %+v", e.Steps, most, e)
	}
	if e.Point >= 0 {
		if v := j.at(e.Point); v.Gone >= 0 && (e.Ended < 0 || e.Ended >= v.Gone) {
			j.complain("W3", "the page of %d is given back at %d, ahead of the end of %+v", v.Number, v.Gone, e)
		}
	}
	if e.Ended < 0 || e.Code != api.OK {
		return
	}
	v := j.at(e.Point)
	if e.Broken || e.Version != v.Number || e.Point < 0 {
		j.complain("W1", "%d counts: %+v", v.Number, e)
	}
	if want := e.Kind == api.OpCheck && mean.Allows(v.Policy, j.op(e).Triple); e.Allowed != want {
		j.complain("W1", "%d says %v: %+v", v.Number, want, e)
	}
}

func (j *judge) write(e api.Event) {
	j.pointLies(e)
	if e.Point < 0 {
		if e.Ended >= 0 {
			j.complain("W1", "it has no point: %+v", e)
		}
		return
	}
	v, there := j.put(e.Point)
	if e.Code != api.OK {
		if there {
			j.complain("W1", "it has failed, and put %d there: %+v", v.Number, e)
		}
		j.refused(e, e.Code)
		return
	}
	ahead := j.at(e.Point)
	next, code := changed(ahead.Policy, j.op(e))
	if !there || code != api.OK || textOrNone(next) != textOrNone(v.Policy) || e.Ended >= 0 && e.Version != v.Number {
		j.complain("W1", "it has put %+v there (%v) behind %d: %+v", v, there, ahead.Number, e)
	}
	j.refused(e, api.OK)
	if e.Ended < 0 {
		return
	}
	if ahead.Gone < 0 || ahead.Gone > e.Ended {
		j.complain("W3", "the page of %d is out behind the end of %+v", ahead.Number, e)
	}
	if e.Kind == api.OpRevoke {
		j.revoked(e, ahead, v)
	}
}

// revoked asks what holds behind a revoke's end.
func (j *judge) revoked(revoke api.Event, ahead, behind api.Version) {
	triple := j.op(revoke).Triple
	want := slices.DeleteFunc(mean.Relation(ahead.Policy), func(t api.Triple) bool { return t == triple })
	if !slices.Equal(mean.Relation(behind.Policy), want) {
		j.complain("W2", "the relation is %v, want %v", mean.Relation(behind.Policy), want)
	}
	for _, e := range j.r.Events {
		if e.Kind != api.OpCheck && e.Kind != api.OpVersion {
			continue
		}
		if e.Point >= 0 && e.Point < revoke.Point && (e.Ended < 0 || e.Ended >= revoke.Ended) {
			j.complain("W2", "%+v ends behind %+v", e, revoke)
		}
		if e.Kind != api.OpCheck || e.Began <= revoke.Ended || !e.Allowed || j.op(e).Triple != triple {
			continue
		}
		if !slices.ContainsFunc(j.r.Versions, func(v api.Version) bool {
			return v.Point > revoke.Point && v.Point < e.Point && mean.Allows(v.Policy, triple)
		}) {
			j.complain("W2", "%+v is allowed behind %+v", e, revoke)
		}
	}
}

// pages are loaded from while they count, or have counted, and are not given back; and few are out.
func (j *judge) pages() {
	for now, x := range j.r.Trace {
		if x.Kind != api.AccessLoad || x.Addr < slotsAt+2*j.c.Slots {
			continue
		}
		if !x.Good || !slices.ContainsFunc(j.r.Versions, func(v api.Version) bool {
			return x.Addr >= v.Addr && x.Addr < v.Addr+v.Size && v.Point < now && (v.Gone < 0 || v.Gone > now)
		}) {
			j.complain("W3", "moment %d: %s", now, say(x))
		}
	}
	for now, n := range j.r.Live {
		writes := 0
		for _, e := range j.r.Events {
			if (e.Kind == api.OpUpdate || e.Kind == api.OpApply || e.Kind == api.OpRevoke) && e.Began <= now && (e.Ended < 0 || e.Ended > now) {
				writes++
			}
		}
		if n > 1+writes {
			j.complain("W3", "moment %d: %d pages are out, %d writes are in progress", now, n, writes)
		}
	}
}

// refused asks whether a write's Code is the first of W14's that is so (but for ErrMany: the index is not full here).
func (j *judge) refused(e api.Event, got api.Errno) {
	v := j.at(e.Point)
	next, want := changed(v.Policy, j.op(e))
	if want == api.OK && v.Number == api.MaxVersion {
		want = api.ErrWorn
	}
	if want == api.OK {
		size, from := sizeOfPolicy(next), slotsAt+2*j.c.Slots
		if size > v.Addr-from && size > j.c.Words-v.Addr-v.Size {
			want = api.ErrRoom
		}
	}
	if want == api.OK {
		bytes := 17 + len(textOrNone(next))
		for _, x := range j.r.Versions {
			if x.Point < e.Point {
				bytes += 17 + len(textOrNone(x.Policy))
			}
		}
		if bytes > j.c.Disk {
			want = api.ErrFull
		}
	}
	if got != want {
		j.complain("W14", "%v, want %v: %+v", got, want, e)
	}
}

// slots asks what is refused for a slot's sake. (Events stand in the order in which they have begun, and a task's operations one behind the other.)
func (j *judge) slots() {
	held := map[int]int{}
	for _, e := range j.r.Events {
		slot, holds := held[e.Task]
		var want api.Errno
		switch e.Kind {
		case api.OpRegister:
			want = api.ErrHeld
			if !holds && e.Ended >= 0 {
				want = j.register(e)
			}
		case api.OpUnregister, api.OpCheck, api.OpVersion:
			if !holds {
				want = api.ErrSlot
			}
		case api.OpUpdate, api.OpApply, api.OpRevoke:
			continue
		default:
			want = api.ErrArg
		}
		if e.Ended < 0 {
			continue
		}
		if e.Code != want {
			j.complain("W14", "%v, want %v: %+v, slot %d", e.Code, want, e, slot)
		}
		if e.Kind == api.OpRegister && e.Code == api.OK {
			held[e.Task] = e.Version
		}
		if e.Kind == api.OpUnregister {
			delete(held, e.Task)
		}
	}
}

// register is refused where each slot was another's at the step that looked at it.
func (j *judge) register(e api.Event) api.Errno {
	looked := 0
	for now := e.Began; now <= e.Ended; now++ {
		x := j.r.Trace[now]
		if j.r.Tasks[now] != e.Task {
			continue
		}
		if x.Kind != api.AccessSwap || x.Addr != slotsAt+j.c.Slots+looked || x.Value != e.Task+1 {
			j.complain("W14", "moment %d: %s", now, say(x))
		}
		if x.Old == 0 {
			return api.OK
		}
		looked++
	}
	if looked != j.c.Slots {
		j.complain("W14", "%d slots were looked at: %+v", looked, e)
	}
	return api.ErrSlots
}

// wantKept asks that nothing is complained of.
func wantKept(t *testing.T, c api.Config, tasks [][]api.Op, r api.Run) {
	t.Helper()
	if wrong := judged(c, tasks, r); len(wrong) > 0 {
		t.Errorf("%d promises are broken: %s", len(wrong), strings.Join(wrong[:min(3, len(wrong))], "\n"))
	}
}

// wantBroken asks that a promise is complained of.
func wantBroken(t *testing.T, c api.Config, tasks [][]api.Op, list, promise string) {
	t.Helper()
	r := played(t, c, tasks, list)
	if !slices.ContainsFunc(judged(c, tasks, r), func(s string) bool { return strings.HasPrefix(s, promise+":") }) {
		t.Errorf("flaw %d: %s is kept: %v", c.Flaw, promise, judged(c, tasks, r))
	}
	c.Flaw = 0
	r = played(t, c, tasks, list)
	wantKept(t, c, tasks, r)
}

// example is the configuration of the document's examples of the whole.
func example() api.Config {
	return api.Config{Text: small, Slots: 1, Sets: 1, Ways: 1, Words: 400, First: 1, Disk: 4000}
}

// Each flaw breaks a promise, in the order that the document gives.
func TestEachFlawBreaksAPromise(t *testing.T) {
	restore := apply(newSubject("eve"))
	for _, x := range []struct {
		flaw          int
		tasks         [][]api.Op
		list, promise string
	}{
		{api.FlawNoWait, tasks(), "0:14 1:31 0:1", "W2"},
		{api.FlawTag, one(register(), check(door), revoke(door), restore, check(door)), "0:86", "W1"},
		{api.FlawEarly, tasks(), "1:8 0:7 1:25", "W1"},
		{api.FlawLate, tasks(), "0:3 1:33 0:3", "W1"},
		{api.FlawNoLock, [][]api.Op{{restore}, {revoke(door)}}, "0:27 1:30 0:4", "W1"},
		{api.FlawEarlyDone, tasks(), "0:15 1:33", "W3"},
		{api.FlawNoWait, tasks(), "0:5 1:31 0:10", "W3"},
	} {
		c := example()
		c.Flaw = x.flaw
		wantBroken(t, c, x.tasks, x.list, x.promise)
	}
}

// orders goes through all runs with at most so many switches: a task that is ready goes on, or another one is picked in its place.
func orders(t *testing.T, c api.Config, tasks [][]api.Op, switches int, each func(list []int, r api.Run)) {
	t.Helper()
	var walk func(list []int, left int)
	walk = func(list []int, left int) {
		s := made(t, c, tasks)
		for _, task := range list {
			s.Pick(task)
		}
		for len(list) < 2000 {
			last := -1
			if len(list) > 0 {
				last = list[len(list)-1]
			}
			goes := last >= 0 && s.Ready(last)
			next := -1
			for task := range tasks {
				if !s.Ready(task) || goes && task == last {
					continue
				}
				if goes && left > 0 {
					walk(append(slices.Clone(list), task), left-1)
				} else if !goes && next < 0 {
					next = task
				} else if !goes {
					walk(append(slices.Clone(list), task), left)
				}
			}
			if goes {
				next = last
			}
			if next < 0 {
				break
			}
			s.Pick(next)
			list = append(list, next)
		}
		each(list, s.Run())
	}
	walk(nil, switches)
}

// The document counts them: 2 without a switch, 48 with one, 908 with two. None breaks a promise, and all come to their end.
func TestAllOrdersOfTheExample(t *testing.T) {
	for switches, want := range []int{2, 48, 908} {
		n := 0
		orders(t, example(), tasks(), switches, func(list []int, r api.Run) {
			n++
			wantKept(t, example(), tasks(), r)
			if len(list) != 48 || slices.ContainsFunc(r.Events, func(e api.Event) bool { return e.Ended < 0 || e.Code != api.OK }) {
				t.Errorf("%v: %+v", list, r.Events)
			}
		})
		if n != want {
			t.Errorf("%d runs with %d switches, want %d", n, switches, want)
		}
	}
}

// Two writers and a reader, three writers, and others, with one switch at most.
func TestAllOrdersOfOthers(t *testing.T) {
	restore := apply(api.Delta{Kind: api.DeltaRestore, Triple: door})
	c := example()
	c.Slots = 2
	for _, list := range [][][]api.Op{
		{{register(), check(door), check(door)}, {revoke(door), restore}, {revoke(door)}},
		{{revoke(door)}, {apply(newSubject("eve"))}, {update("?"), update(small)}},
		{{register(), check(door), unregister()}, {register(), version(), check(door)}, {register(), revoke(door)}},
		{{register(), check(door), revoke(door), check(door)}, {register(), check(door), restore}},
	} {
		n := 0
		orders(t, c, list, 1, func(order []int, r api.Run) {
			n++
			wantKept(t, c, list, r)
			if slices.ContainsFunc(r.Events, func(e api.Event) bool { return e.Ended < 0 }) {
				t.Errorf("%v: it does not come to its end: %+v", order, r.Events)
			}
		})
		if n < 50 {
			t.Errorf("%d runs", n)
		}
	}
}

// Drawn runs without a flaw keep all promises; with a flaw some do not.
func TestDrawnRunsKeepThePromises(t *testing.T) {
	broken := map[int]int{}
	n := tally{}
	for seed := range 1500 {
		d := dice(1000000 + seed)
		x := draw(&d)
		r := store.Play(x.c, x.tasks, x.picks)
		if r.Code != api.OK {
			continue
		}
		if x.c.Flaw > 0 {
			if len(judged(x.c, x.tasks, r)) > 0 {
				broken[x.c.Flaw]++
			}
			continue
		}
		n.count(x, r)
		wantKept(t, x.c, x.tasks, r)
		if t.Failed() {
			t.Fatalf("seed %d: %+v", seed, x)
		}
	}
	n.want(t, 20, "hit", "allowed", "version", "gone", "in progress", "code 0", "code 1", "code 60", "code 92", "code 150", "code 180", "code 181", "code 182", "code 210", "code 250")
	for _, flaw := range []int{api.FlawNoWait, api.FlawEarly, api.FlawNoLock, api.FlawEarlyDone} {
		if broken[flaw] == 0 {
			t.Errorf("flaw %d breaks nothing: %v", flaw, broken)
		}
	}
}

// W4: a check ends, though all others stand still in whatever they do.
func TestReadersNeverWait(t *testing.T) {
	list := [][]api.Op{{register(), check(door), check(api.Triple{Subject: "eve", Object: "door", Action: "open"}), version()}, {revoke(door)}, {register(), check(door)}, {update(house)}}
	for seed := range 400 {
		d := dice(seed)
		c := api.Config{Text: small, Slots: 2, Sets: seed % 2, Ways: 1, Words: 300, First: 1, Disk: 4000}
		s := made(t, c, list)
		s.Pick(0)
		for range d.throw(150) {
			s.Pick(of(&d, []int{1, 1, 1, 2, 3, 3}))
		}
		for !s.Done(0) {
			if !s.Ready(0) || len(s.Run().Tasks) > 1000 {
				t.Fatal("a reader waits")
			}
			s.Pick(0)
		}
		r := s.Run()
		for _, e := range r.Events {
			if e.Task == 0 && e.Kind != api.OpRegister && (e.Steps > store.CheckSteps(largest(r)) || e.Ended-e.Began+1 != e.Steps || e.Code != api.OK) {
				t.Errorf("%+v", e)
			}
		}
		wantKept(t, c, list, r)
	}
}

// fair picks a task, but one that has not been picked for so long goes ahead.
func fair(d *dice, s *store.Store, tasks, window int, since []int) int {
	task := d.throw(tasks)
	for other := range tasks {
		if s.Done(other) {
			since[other] = 0
		}
		if since[other] > since[task] {
			if since[other] >= window-tasks {
				task = other
			}
		}
	}
	for other := range since {
		since[other]++
	}
	since[task] = 0
	return task
}

// W5: with fair picks each write ends in a bounded time.
func TestWritersWaitForABoundedTime(t *testing.T) {
	restore := apply(api.Delta{Kind: api.DeltaRestore, Triple: door})
	longest := 0
	for seed := range 300 {
		d := dice(seed)
		c := api.Config{Text: small, Slots: 1 + seed%3, Sets: seed % 2, Ways: 1, Words: 300, First: 1, Disk: 8000}
		list := [][]api.Op{{revoke(door), restore}, {update(small), update("?")}, {restore, revoke(door)}}
		for range c.Slots {
			list = append(list, []api.Op{register(), check(door), version(), check(door), check(door), version(), check(door)})
		}
		window := len(list) + d.throw(5)
		s := made(t, c, list)
		since := make([]int, len(list))
		var order []int
		for len(order) < 5000 && slices.ContainsFunc([]int{0, 1, 2, 3, 4, 5}, func(i int) bool { return !s.Done(i) }) {
			order = append(order, fair(&d, s, len(list), window, since))
			s.Pick(order[len(order)-1])
		}
		r := s.Run()
		wantWindows(t, r, len(list), window)
		size := largest(r)
		most := window * (len(list)*(store.WriteSteps(size, c.Slots)+c.Slots*(store.CheckSteps(size)+1)+1) + 1)
		for _, e := range r.Events {
			if e.Kind != api.OpUpdate && e.Kind != api.OpApply && e.Kind != api.OpRevoke {
				continue
			}
			if e.Ended < 0 || e.Ended-e.Began > most {
				t.Errorf("seed %d: %+v, want %d moments at most", seed, e, most)
			}
			longest = max(longest, e.Ended-e.Began)
		}
		wantKept(t, c, list, r)
		if t.Failed() {
			t.Fatalf("seed %d", seed)
		}
	}
	if longest < 200 {
		t.Errorf("the longest write took %d moments", longest)
	}
}

// wantWindows asks that the picks are fair, up to each task's last step.
func wantWindows(t *testing.T, r api.Run, tasks, window int) {
	t.Helper()
	for task := range tasks {
		last, end := -1, 0
		for _, e := range r.Events {
			if e.Task == task {
				end = e.Ended
			}
		}
		for now := range end + 1 {
			if r.Tasks[now] == task {
				if now-last > window {
					t.Fatalf("the picks are not fair: %d, %d, window %d", last, now, window)
				}
				last = now
			}
		}
	}
}

// W5's number in the document's example: 282 moments.
func TestTheExampleOfABoundedTime(t *testing.T) {
	if got := 2 * (2*(store.WriteSteps(21, 1)+1*(store.CheckSteps(21)+1)+1) + 1); got != 282 {
		t.Errorf("%d moments", got)
	}
	most := 0
	for from := range 30 {
		s := made(t, example(), tasks())
		for range from {
			s.Pick(0)
		}
		for n := 0; !s.Done(1) && n < 1000; n++ {
			s.Pick(1 - n%2)
		}
		e := s.Run().Events[len(s.Run().Events)-1]
		for _, x := range s.Run().Events {
			if x.Kind == api.OpRevoke {
				e = x
			}
		}
		if e.Ended < 0 || e.Ended-e.Began > 282 {
			t.Errorf("%+v", e)
		}
		most = max(most, e.Ended-e.Began)
	}
	if most < 60 {
		t.Errorf("%d moments at most", most)
	}
}

// lastEnded is the version of the last write that has ended well; the first one, if none has.
func lastEnded(r api.Run) int {
	n := r.Versions[0].Number
	for _, e := range r.Events {
		if (e.Kind == api.OpUpdate || e.Kind == api.OpApply || e.Kind == api.OpRevoke) && e.Ended >= 0 && e.Code == api.OK {
			n = max(n, e.Version)
		}
	}
	return n
}

// wantRecovered cuts the power, keeps so many bytes of those that are not safe, and asks for the store that is recovered: was it the one of a write in progress?
func wantRecovered(t *testing.T, c api.Config, tasks [][]api.Op, r api.Run, keep int) bool {
	t.Helper()
	got, e := store.Recover(c, r.Disk[:r.Synced+keep])
	ended := lastEnded(r)
	last := r.Versions[0].Policy
	for _, v := range r.Versions {
		if v.Number == ended {
			last = v.Policy
		}
	}
	want := c
	want.Text, want.First = textOf(t, last), ended
	if e == api.OK && got == want {
		return false
	}
	want.First++
	for _, x := range r.Events {
		if x.Kind != api.OpUpdate && x.Kind != api.OpApply && x.Kind != api.OpRevoke || x.Ended >= 0 {
			continue
		}
		next, code := changed(last, tasks[x.Task][x.Number])
		if want.Text = textOrNone(next); code == api.OK && e == api.OK && got == want {
			return true
		}
	}
	t.Errorf("Recover behind %d moments, %d bytes kept: %+v, %v; the last that ended was %d", len(r.Tasks), keep, got, e, ended)
	return false
}

// W9: the power goes at each moment, and keeps any part of what was not safe.
func TestThePowerGoes(t *testing.T) {
	whole, part := 0, 0
	for seed := range 25 {
		d := dice(seed)
		c := api.Config{Text: small, Slots: 1, Words: 300, First: 1 + seed, Disk: of(&d, []int{300, 8000})}
		list := [][]api.Op{{revoke(door), update(small)}, {apply(newSubject("eve")), update("?"), update("subject ann;")}, {register(), check(door), check(door)}}
		s := made(t, c, list)
		task := 0
		for range 300 {
			r := s.Run()
			for keep := range len(r.Disk) - r.Synced + 1 {
				if keep%7 == seed%7 || keep == len(r.Disk)-r.Synced || keep == 0 {
					if wantRecovered(t, c, list, r, keep) {
						whole++
					} else if keep > 0 {
						part++
					}
				}
			}
			if t.Failed() {
				t.Fatalf("seed %d", seed)
			}
			if d.throw(6) == 0 {
				task = d.throw(3)
			}
			s.Pick(task)
		}
	}
	if whole < 100 || part < 100 {
		t.Errorf("%d times the store was that of a write in progress, %d times not", whole, part)
	}
}

// The document's example of the power.
func TestTheExampleOfThePower(t *testing.T) {
	c := example()
	r := played(t, c, tasks(), "0:15 1:33")
	if len(r.Disk) != 191 || r.Synced != 191 {
		t.Errorf("%d bytes, %d of them safe", len(r.Disk), r.Synced)
	}
	if got, e := store.Recover(c, r.Disk); e != api.OK || got.First != 2 || len(load(t, got.Text).Excepts) != 1 {
		t.Errorf("Recover = %+v, %v", got, e)
	}
	r = played(t, c, tasks(), "0:15 1:6")
	if len(r.Disk) != 191 || r.Synced != 82 {
		t.Errorf("%d bytes, %d of them safe", len(r.Disk), r.Synced)
	}
	for keep := range 110 {
		want := 1
		if keep == 109 {
			want = 2
		}
		if got, e := store.Recover(c, r.Disk[:82+keep]); e != api.OK || got.First != want {
			t.Errorf("%d bytes kept: Recover = %+v, %v", keep, got, e)
		}
	}
}

// W14: no number is left for the names of a write. (Writes that fail for want of words give numbers to their names all the same.)
func TestNoNumberIsLeft(t *testing.T) {
	const each = 64 + 64
	names := func(kind, tag string, n int) string { return kind + " " + many(tag, n) + ";" }
	var list [][]api.Op
	for left := api.MaxSymbols - 3; left > 0; { // SMALL has three names
		if len(list) == 0 || len(list[len(list)-1]) == 256 {
			list = append(list, nil)
		}
		n, tag := min(left, each), fmt.Sprint("x", left, "_")
		text := names("subject", "s"+tag, min(n, 64))
		if n > 64 {
			text += names("object", "o"+tag, n-64)
		}
		left -= n
		list[len(list)-1] = append(list[len(list)-1], update(text))
	}
	c := config()
	c.Words = 49 // of a page of 21 words there is room for one more
	list = append(list, []api.Op{update("subject eve;"), update("subject \"ann\";"), update("object eve; subject ann trust 2;"), update("subject eve;")})
	s := made(t, c, list)
	for task := range list {
		toEnd(t, s, task)
	}
	r := s.Run()
	if len(r.Symbols) != api.MaxSymbols {
		t.Errorf("%d symbols", len(r.Symbols))
	}
	last := len(r.Events) - 4
	for _, e := range r.Events[:last] {
		if e.Code != api.ErrRoom || e.Steps != 6 {
			t.Fatalf("%+v", e)
		}
	}
	if want := []api.Errno{api.ErrMany, api.OK, api.ErrNumber, api.ErrMany}; !slices.Equal(codes(r)[last:], want) {
		t.Errorf("the codes are %v, want %v", codes(r)[last:], want)
	}
	for i, steps := range []int{5, 20, 5, 5} {
		if e := r.Events[last+i]; e.Steps != steps {
			t.Errorf("%+v, want %d steps", e, steps)
		}
	}
}

// W6: whatever an update is given, its text is taken whole, or nothing has changed.
func TestATextIsTakenWholeOrRefused(t *testing.T) {
	taken, refused := 0, 0
	for seed := range 600 {
		d := dice(seed)
		text := []byte(of(&d, drawnTexts))
		for range d.throw(3) {
			if len(text) == 0 {
				break
			}
			at := d.throw(len(text))
			switch d.throw(3) {
			case 0:
				text[at] = byte(d.throw(256))
			case 1:
				text = slices.Delete(text, at, min(len(text), at+1+d.throw(9)))
			case 2:
				text = slices.Insert(text, at, text[d.throw(len(text)):]...)
			}
		}
		want, code := changed(api.Policy{}, update(string(text)))
		s := made(t, great(), one(update(string(text)), register(), check(api.Triple{Subject: "ann", Object: "door1", Action: "open"}), check(door)))
		was := s.Run()
		toEnd(t, s, 0)
		r := s.Run()
		now := r.Versions[len(r.Versions)-1].Policy
		if r.Events[0].Code != code {
			t.Errorf("%q: %+v, want %v", text, r.Events[0], code)
		}
		if code != api.OK {
			refused++
			if len(r.Versions) != 1 || r.Versions[0].Gone >= 0 || r.Disk != was.Disk || r.Synced != was.Synced {
				t.Errorf("%q is refused, and something has changed", text)
			}
			want = load(t, house)
		} else if taken++; len(r.Versions) != 2 {
			t.Errorf("%q: %d versions", text, len(r.Versions))
		}
		if textOf(t, now) != textOf(t, want) || textOf(t, load(t, textOf(t, now))) != textOf(t, now) {
			t.Errorf("%q: the policy is %+v", text, now)
		}
		for i, triple := range []api.Triple{{Subject: "ann", Object: "door1", Action: "open"}, door} {
			if e := r.Events[2+i]; e.Allowed != mean.Allows(want, triple) {
				t.Errorf("%q: %v: %+v", text, triple, e)
			}
		}
	}
	if taken < 100 || refused < 100 {
		t.Errorf("%d texts were taken, %d refused", taken, refused)
	}
}
