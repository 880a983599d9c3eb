package store_test

import (
	"fmt"
	"reflect"
	"slices"
	"strconv"
	"strings"
	"testing"

	"gatehouse/api"
	"gatehouse/canon"
	"gatehouse/graph"
	"gatehouse/journal"
	"gatehouse/names"
	"gatehouse/own"
	"gatehouse/page"
	"gatehouse/store"
	"gatehouse/valid"
)

// The fixed words; the owners lie behind the slots, the arena behind the owners.
const currentAt, epochAt, ticketAt, servedAt, slotsAt = 0, 1, 2, 3, 4

const poison = api.Poison

const small = "action open; subject ann; object door; allow ann on door: open;"

// door is the triple of the chapter's examples.
var door = api.Triple{Subject: "ann", Object: "door", Action: "open"}

func register() api.Op { return api.Op{Kind: api.OpRegister} }

func unregister() api.Op { return api.Op{Kind: api.OpUnregister} }

func check(t api.Triple) api.Op { return api.Op{Kind: api.OpCheck, Triple: t} }

func version() api.Op { return api.Op{Kind: api.OpVersion} }

func revoke(t api.Triple) api.Op { return api.Op{Kind: api.OpRevoke, Triple: t} }

func update(text string) api.Op { return api.Op{Kind: api.OpUpdate, Text: text} }

func apply(deltas ...api.Delta) api.Op { return api.Op{Kind: api.OpApply, Deltas: deltas} }

func newSubject(name string) api.Delta {
	return api.Delta{Kind: api.DeltaSubject, Name: name, Trust: 0.5}
}

// config is the one of the chapter's examples.
func config() api.Config {
	return api.Config{Text: small, Slots: 1, Words: 100, First: 5, Disk: 500}
}

// tasks are those of the chapter's examples.
func tasks() [][]api.Op { return [][]api.Op{{register(), check(door)}, {revoke(door)}} }

// one is a single task.
func one(ops ...api.Op) [][]api.Op { return [][]api.Op{ops} }

// picks are written so: "0:15 1" is 15 times 0, and then 1.
func picks(t *testing.T, text string) []int {
	t.Helper()
	var l []int
	for _, f := range strings.Fields(text) {
		task, times, many := strings.Cut(f, ":")
		n := 1
		if many {
			n = number(t, times)
		}
		l = append(l, slices.Repeat([]int{number(t, task)}, n)...)
	}
	return l
}

func number(t *testing.T, text string) int {
	t.Helper()
	n, err := strconv.Atoi(text)
	if err != nil {
		t.Fatalf("%q: %v", text, err)
	}
	return n
}

// made is a store of a configuration that may be.
func made(t *testing.T, c api.Config, tasks [][]api.Op) *store.Store {
	t.Helper()
	s, e := store.New(c, tasks)
	if s == nil || e != api.OK {
		t.Fatalf("New(%+v) = %v, %v", c, s, e)
	}
	return s
}

// wantRefused asks for a refusal, of New and of Play.
func wantRefused(t *testing.T, c api.Config, tasks [][]api.Op, want api.Errno) {
	t.Helper()
	if s, e := store.New(c, tasks); s != nil || e != want {
		t.Errorf("New(%+v) of %d tasks = %v, %v, want %v", c, len(tasks), s, e, want)
	}
	for _, n := range []int{0, 2, api.MaxPicks + 1} {
		if r := store.Play(c, tasks, make([]int, n)); !reflect.DeepEqual(r, api.Run{Code: want}) {
			t.Errorf("Play(%+v) of %d tasks and %d picks = %+v, want %v", c, len(tasks), n, r, want)
		}
	}
}

// played is what Play tells of picks that are not refused.
func played(t *testing.T, c api.Config, tasks [][]api.Op, list string) api.Run {
	t.Helper()
	r := store.Play(c, tasks, picks(t, list))
	if r.Code != api.OK {
		t.Fatalf("Play(%+v): %v", c, r.Code)
	}
	return r
}

// toEnd picks a task until it is done: how many steps these were.
func toEnd(t *testing.T, s *store.Store, task int) int {
	t.Helper()
	for n := range 100000 {
		if s.Done(task) {
			return n
		}
		if !s.Pick(task) {
			t.Fatalf("Pick(%d), and it is not done: false", task)
		}
	}
	t.Fatalf("the task %d does not end", task)
	return 0
}

// finished is one task's run, from its first step to its last.
func finished(t *testing.T, c api.Config, ops ...api.Op) api.Run {
	t.Helper()
	s := made(t, c, one(ops...))
	toEnd(t, s, 0)
	return s.Run()
}

func load(t *testing.T, text string) api.Policy {
	t.Helper()
	p, err := valid.Load(text)
	if err != nil {
		t.Fatalf("%q: %v", text, err)
	}
	return p
}

func textOf(t *testing.T, p api.Policy) string {
	t.Helper()
	text, e := canon.Text(p)
	if e != api.OK {
		t.Fatalf("canon.Text: %v", e)
	}
	return text
}

// textOrNone is the text of a policy that may not be right: none.
func textOrNone(p api.Policy) string {
	text, _ := canon.Text(p)
	return text
}

func sizeOfPolicy(p api.Policy) int { return page.Size(graph.Compile(p)) }

// symbolsOf are the numbers of a policy's names, all of them new.
func symbolsOf(t *testing.T, text string) []string {
	t.Helper()
	g, x := graph.Compile(load(t, text)), names.NewIndex[string]()
	for _, name := range slices.Concat(g.Actions, g.Subjects, g.Objects) {
		x.Of(name)
	}
	var l []string
	for _, name := range x.All() {
		l = append(l, name)
	}
	return l
}

// sizeOf is how many words a text's page has.
func sizeOf(t *testing.T, text string) int {
	t.Helper()
	return sizeOfPolicy(load(t, text))
}

func frame(t *testing.T, version int, text string) string {
	t.Helper()
	record, e := journal.Frame(api.Entry{Version: version, Text: text})
	if e != api.OK {
		t.Fatalf("journal.Frame: %v", e)
	}
	return record
}

// recordOf is the record of a text's policy.
func recordOf(t *testing.T, version int, text string) string {
	t.Helper()
	return frame(t, version, textOf(t, load(t, text)))
}

// same takes no list and one without elements for one.
func same(x, y api.Run) bool { return reflect.DeepEqual(plain(x), plain(y)) }

// plain is a run without empty lists.
func plain(r api.Run) api.Run {
	r.Events = append([]api.Event(nil), r.Events...)
	r.Tasks = append([]int(nil), r.Tasks...)
	r.Trace = append([]api.Access(nil), r.Trace...)
	r.Live = append([]int(nil), r.Live...)
	r.Stats = append([]api.Stats(nil), r.Stats...)
	r.Symbols = append([]string(nil), r.Symbols...)
	r.Versions = append([]api.Version(nil), r.Versions...)
	for i := range r.Versions {
		r.Versions[i].Policy = own.Policy(r.Versions[i].Policy)
	}
	return r
}

func wantSame(t *testing.T, got, want api.Run) {
	t.Helper()
	got, want = plain(got), plain(want)
	x, y := reflect.ValueOf(got), reflect.ValueOf(want)
	for i := range x.NumField() {
		if !reflect.DeepEqual(x.Field(i).Interface(), y.Field(i).Interface()) {
			t.Errorf("%s: %v, want %v", x.Type().Field(i).Name, x.Field(i), y.Field(i))
		}
	}
}

// say writes an access: what it is, the address, the value; what stood there where it says so; "!" behind one that was refused, "-" for none.
func say(x api.Access) string {
	if x == (api.Access{}) {
		return "-"
	}
	l := []string{"load", "store", "swap", "add", "take", "free", "append", "sync"}
	s := "?"
	if x.Kind >= 1 && int(x.Kind) <= len(l) {
		s = l[x.Kind-1]
	}
	switch x.Kind {
	case api.AccessFree:
		s += fmt.Sprintf(" %d", x.Addr)
	case api.AccessAppend:
		s += fmt.Sprintf(" %d", x.Value)
	case api.AccessSync:
	default:
		s += fmt.Sprintf(" %d %d", x.Addr, x.Value)
	}
	if !x.Good {
		s += "!"
	}
	return s
}

func sayAll(trace []api.Access) []string {
	var l []string
	for _, x := range trace {
		l = append(l, say(x))
	}
	return l
}

// wantTrace asks for the accesses from a moment on: "swap 5 1, load 1 1".
func wantTrace(t *testing.T, r api.Run, from int, text string) {
	t.Helper()
	want := strings.Split(text, ", ")
	if len(r.Trace) < from+len(want) {
		t.Fatalf("%d accesses, want %d and %d", len(r.Trace), from, len(want))
	}
	for i, x := range sayAll(r.Trace[from : from+len(want)]) {
		if x != want[i] {
			t.Errorf("moment %d: %s, want %s", from+i, x, want[i])
		}
	}
}

func wantEvents(t *testing.T, r api.Run, want ...api.Event) {
	t.Helper()
	if len(r.Events) != len(want) {
		t.Errorf("%d events, want %d", len(r.Events), len(want))
	}
	for i := range min(len(want), len(r.Events)) {
		if r.Events[i] != want[i] {
			t.Errorf("event %d: %+v, want %+v", i, r.Events[i], want[i])
		}
	}
}

// wantVersions asks for versions; a policy is held against a text.
func wantVersions(t *testing.T, r api.Run, want []api.Version, texts ...string) {
	t.Helper()
	if len(r.Versions) != len(want) {
		t.Fatalf("%d versions, want %d: %+v", len(r.Versions), len(want), r.Versions)
	}
	for i, v := range r.Versions {
		want[i].Policy = load(t, texts[i])
		if textOf(t, v.Policy) != textOf(t, want[i].Policy) {
			t.Errorf("the version %d has the policy %+v, want %+v", i, v.Policy, want[i].Policy)
		}
		v.Policy = want[i].Policy
		if !reflect.DeepEqual(v, want[i]) {
			t.Errorf("the version %d is %+v, want %+v", i, v, want[i])
		}
	}
}

// wantLive asks how many pieces are out behind each moment: "1:15 2:3 1".
func wantLive(t *testing.T, r api.Run, text string) {
	t.Helper()
	if want := picks(t, text); !slices.Equal(r.Live, want) {
		t.Errorf("Live is %v, want %v", r.Live, want)
	}
}

func codes(r api.Run) []api.Errno {
	var l []api.Errno
	for _, e := range r.Events {
		l = append(l, e.Code)
	}
	return l
}

// dice throws numbers, always the same ones.
type dice uint64

func (d *dice) throw(n int) int {
	*d = *d*6364136223846793005 + 1442695040888963407
	return int(uint64(*d>>33) % uint64(n))
}

func of[T any](d *dice, things []T) T { return things[d.throw(len(things))] }

// The chapter's examples, in their order.

// stores are a page's words, one access each.
func stores(addr int, words []int) string {
	var l []string
	for i, word := range words {
		l = append(l, fmt.Sprintf("store %d %d", addr+i, word))
	}
	return strings.Join(l, ", ")
}

// revoked is the page of SMALL without the triple, as version 6.
func revoked() []int {
	return []int{6, 8, 1, 1, 0, 0, 7, 1, 14, 1, 0, 0, 0, 0, 0, 0, 0, 0, 9, 1, 0}
}

const checked = "swap 5 1, load 1 1, store 4 1, load 0 6, load 6 5, load 7 8, load 24 9, load 25 1, load 14 14, load 15 1, load 12 7, load 13 1, load 9 1, load 26 1, store 4 0"

func TestTheCheck(t *testing.T) {
	s := made(t, config(), tasks())
	if n := toEnd(t, s, 0); n != 15 || !s.Done(0) || s.Done(1) {
		t.Errorf("%d steps", n)
	}
	r := s.Run()
	wantTrace(t, r, 0, checked)
	wantEvents(t, r,
		api.Event{Kind: api.OpRegister, Point: -1, Steps: 1},
		api.Event{Number: 1, Kind: api.OpCheck, Began: 1, Ended: 14, Point: 3, Steps: 14, Allowed: true, Version: 5})
	wantLive(t, r, "1:15")
	wantVersions(t, r, []api.Version{{Number: 5, Addr: 6, Size: 21, Point: -1, Gone: -1}}, small)
}

func TestTheRevoke(t *testing.T) {
	r := played(t, config(), tasks(), "0:15 1:33")
	wantTrace(t, r, 0, checked)
	wantTrace(t, r, 15, "add 2 1, load 3 0, load 0 6, load 6 5, take 27 21, append 6, sync, "+stores(27, revoked())+", store 0 27, add 1 1, load 4 0, free 6, add 3 1")
	wantEvents(t, r,
		api.Event{Kind: api.OpRegister, Point: -1, Steps: 1},
		api.Event{Number: 1, Kind: api.OpCheck, Began: 1, Ended: 14, Point: 3, Steps: 14, Allowed: true, Version: 5},
		api.Event{Task: 1, Kind: api.OpRevoke, Began: 15, Ended: 47, Point: 43, Steps: 33, Version: 6})
	wantVersions(t, r, []api.Version{{Number: 5, Addr: 6, Size: 21, Point: -1, Gone: 46}, {Number: 6, Addr: 27, Size: 21, Point: 43, Gone: -1}}, small, small+"except ann on door: open;")
	wantLive(t, r, "1:19 2:27 1:2")
	if !slices.Equal(r.Tasks, picks(t, "0:15 1:33")) || !slices.Equal(r.Symbols, []string{"open", "ann", "door"}) || !slices.Equal(r.Stats, make([]api.Stats, 1)) {
		t.Errorf("%v, %v, %v", r.Tasks, r.Symbols, r.Stats)
	}
	if want := recordOf(t, 5, small) + recordOf(t, 6, small+"except ann on door: open;"); r.Disk != want || r.Synced != 191 {
		t.Errorf("the disk has %q, %d of it safe, want %q", r.Disk, r.Synced, want)
	}
}

func TestTheRevokeWaits(t *testing.T) {
	s := made(t, config(), tasks())
	for range 4 {
		s.Pick(0)
	}
	n := 0
	for ; s.Ready(1) && n < 1000; n++ {
		s.Pick(1)
	}
	r := s.Run()
	wantTrace(t, r, 32, "store 0 27, add 1 1")
	wantEvents(t, r,
		api.Event{Kind: api.OpRegister, Point: -1, Steps: 1},
		api.Event{Number: 1, Kind: api.OpCheck, Began: 1, Ended: -1, Point: 3, Steps: 3},
		api.Event{Task: 1, Kind: api.OpRevoke, Began: 4, Ended: -1, Point: 32, Steps: 30})
	if n != 30 || len(r.Trace) != 34 {
		t.Errorf("it waits behind %d steps", n)
	}
	for i := range 11 {
		if s.Done(0) || s.Ready(1) {
			t.Errorf("behind %d steps: Done(0) = %v, Ready(1) = %v", i, s.Done(0), s.Ready(1))
		}
		s.Pick(0)
	}
	if !s.Done(0) || !s.Ready(1) {
		t.Errorf("Done(0) = %v, Ready(1) = %v", s.Done(0), s.Ready(1))
	}
	if e := s.Run().Events[1]; e != (api.Event{Number: 1, Kind: api.OpCheck, Began: 1, Ended: 44, Point: 3, Steps: 14, Allowed: true, Version: 5}) {
		t.Errorf("the check: %+v", e)
	}
	for range 3 {
		s.Pick(1)
	}
	r = s.Run()
	wantTrace(t, r, 45, "load 4 0, free 6, add 3 1")
	if e := r.Events[2]; e != (api.Event{Task: 1, Kind: api.OpRevoke, Began: 4, Ended: 47, Point: 32, Steps: 33, Version: 6}) {
		t.Errorf("the revoke: %+v", e)
	}
}

func TestTheOtherExamples(t *testing.T) {
	c := config()
	c.Slots, c.Text = 17, "?"
	wantRefused(t, c, make([][]api.Op, 65), api.ErrConfig)
	c.Slots = 1
	wantRefused(t, c, make([][]api.Op, 65), api.ErrMany)
	wantRefused(t, c, nil, api.ErrByte)

	c = config()
	c.Words = 26
	wantRefused(t, c, nil, api.ErrRoom)
	c = config()
	c.Disk = 81
	wantRefused(t, c, nil, api.ErrFull)

	r := played(t, config(), one(check(door)), "0")
	wantEvents(t, r, api.Event{Kind: api.OpCheck, Point: -1, Steps: 1, Code: api.ErrSlot})
	r = played(t, config(), one(register(), register(), unregister(), unregister()), "0:4")
	if want := []api.Errno{api.OK, api.ErrHeld, api.OK, api.ErrSlot}; !slices.Equal(codes(r), want) {
		t.Errorf("the codes are %v, want %v", codes(r), want)
	}
	wantTrace(t, r, 0, "swap 5 1, -, store 5 0, -")

	r = played(t, config(), [][]api.Op{{register()}, {register()}}, "0 1")
	wantEvents(t, r, api.Event{Kind: api.OpRegister, Point: -1, Steps: 1}, api.Event{Task: 1, Kind: api.OpRegister, Began: 1, Ended: 1, Point: -1, Steps: 1, Code: api.ErrSlots})

	r = played(t, config(), one(api.Op{Kind: 9}), "0")
	wantEvents(t, r, api.Event{Kind: 9, Point: -1, Steps: 1, Code: api.ErrArg})
	wantTrace(t, r, 0, "-")

	s := made(t, config(), nil)
	if s.Pick(0) {
		t.Error("a step of no task")
	}
	r = s.Run()
	if !slices.Equal(r.Tasks, []int{0}) || !slices.Equal(r.Trace, make([]api.Access, 1)) || !slices.Equal(r.Live, []int{1}) || len(r.Events) != 0 {
		t.Errorf("a moment of no task: %+v", r)
	}
}

func TestTheExamplesOfRecover(t *testing.T) {
	bytes := played(t, config(), tasks(), "0:15 1:33").Disk
	want := config()
	want.Text, want.First = textOf(t, load(t, small+"except ann on door: open;")), 6
	if c, e := store.Recover(config(), bytes); c != want || e != api.OK {
		t.Errorf("Recover = %+v, %v", c, e)
	}
	want.Text, want.First = textOf(t, load(t, small)), 5
	if c, e := store.Recover(config(), bytes[:163]); c != want || e != api.OK {
		t.Errorf("Recover of 163 bytes = %+v, %v", c, e)
	}
	if c, e := store.Recover(config(), bytes[:10]); c != (api.Config{}) || e != api.ErrTorn {
		t.Errorf("Recover of 10 bytes = %+v, %v", c, e)
	}
}

func TestTheExamplesOfCosts(t *testing.T) {
	if n, m := store.CheckSteps(21), store.CheckSteps(3); n != 35 || m != 11 {
		t.Errorf("CheckSteps: %d, %d", n, m)
	}
	if n, m := store.WriteSteps(21, 1), store.WriteSteps(-1, -1); n != 33 || m != 11 {
		t.Errorf("WriteSteps: %d, %d", n, m)
	}
}
