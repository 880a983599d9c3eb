package crew_test

import (
	"math"
	"reflect"
	"slices"
	"strconv"
	"strings"
	"testing"

	"gatehouse/api"
	"gatehouse/crew"
	"gatehouse/own"
	"gatehouse/store"
)

const small = "action open; subject ann; object door; allow ann on door: open;"

// door is the triple that small allows.
var door = api.Triple{Subject: "ann", Object: "door", Action: "open"}

func register() api.Op { return api.Op{Kind: api.OpRegister} }

func unregister() api.Op { return api.Op{Kind: api.OpUnregister} }

func check(t api.Triple) api.Op { return api.Op{Kind: api.OpCheck, Triple: t} }

func version() api.Op { return api.Op{Kind: api.OpVersion} }

func revoke(t api.Triple) api.Op { return api.Op{Kind: api.OpRevoke, Triple: t} }

func update(text string) api.Op { return api.Op{Kind: api.OpUpdate, Text: text} }

func apply(deltas ...api.Delta) api.Op { return api.Op{Kind: api.OpApply, Deltas: deltas} }

func newSubject(name string) api.Delta {
	return api.Delta{Kind: api.DeltaSubject, Name: name, Trust: 0.5}
}

func config() api.Config {
	return api.Config{Text: small, Slots: 1, Sets: 1, Ways: 1, Words: 400, First: 1, Disk: 4000}
}

// tasks are a reader and a writer.
func tasks() [][]api.Op { return [][]api.Op{{register(), check(door)}, {revoke(door)}} }

// list writes numbers so: "0:15 1" is 15 times 0, and then 1.
func list(t *testing.T, text string) []int {
	t.Helper()
	var l []int
	for _, f := range strings.Fields(text) {
		thing, times, many := strings.Cut(f, ":")
		n := 1
		if many {
			n = number(t, times)
		}
		l = append(l, slices.Repeat([]int{number(t, thing)}, n)...)
	}
	return l
}

func number(t *testing.T, text string) int {
	t.Helper()
	n, err := strconv.Atoi(text)
	if err != nil {
		t.Fatalf("%q: %v", text, err)
	}
	return n
}

// plain is a run without empty lists: no list and one without elements are the same.
func plain(r api.Run) api.Run {
	r.Events = append([]api.Event(nil), r.Events...)
	r.Tasks = append([]int(nil), r.Tasks...)
	r.Trace = append([]api.Access(nil), r.Trace...)
	r.Live = append([]int(nil), r.Live...)
	r.Stats = append([]api.Stats(nil), r.Stats...)
	r.Symbols = append([]string(nil), r.Symbols...)
	r.Versions = append([]api.Version(nil), r.Versions...)
	for i := range r.Versions {
		r.Versions[i].Policy = own.Policy(r.Versions[i].Policy)
	}
	return r
}

// wantSame asks for the same run, field by field.
func wantSame(t *testing.T, got, want api.Run) {
	t.Helper()
	got, want = plain(got), plain(want)
	x, y := reflect.ValueOf(got), reflect.ValueOf(want)
	for i := range x.NumField() {
		if !reflect.DeepEqual(x.Field(i).Interface(), y.Field(i).Interface()) {
			t.Errorf("%s: %v, want %v", x.Type().Field(i).Name, x.Field(i), y.Field(i))
		}
	}
}

// picked is what a store tells whose picks are made one by one.
func picked(t *testing.T, c api.Config, tasks [][]api.Op, picks []int) api.Run {
	t.Helper()
	s, e := store.New(c, tasks)
	if e != api.OK {
		return api.Run{Code: e}
	}
	for _, task := range picks {
		s.Pick(task)
	}
	return s.Run()
}

// wantPlayed asks for what the store's own Play tells, and gives it back.
func wantPlayed(t *testing.T, c api.Config, tasks [][]api.Op, picks []int) api.Run {
	t.Helper()
	got := crew.Play(c, tasks, picks)
	wantSame(t, got, store.Play(c, tasks, picks))
	return got
}

// wantNumbers takes no list and one without elements for one.
func wantNumbers(t *testing.T, what string, got, want []int) {
	t.Helper()
	if !slices.Equal(got, want) {
		t.Errorf("%s = %v, want %v", what, got, want)
	}
}

// dice throws numbers, always the same ones.
type dice uint64

func (d *dice) throw(n int) int {
	*d = *d*6364136223846793005 + 1442695040888963407
	return int(uint64(*d>>33) % uint64(n))
}

func of[T any](d *dice, things []T) T { return things[d.throw(len(things))] }

// The chapter's examples, in their order.

func TestTheExamplesOfPlay(t *testing.T) {
	wantSame(t, crew.Play(api.Config{}, nil, nil), api.Run{Code: api.ErrConfig})

	r := crew.Play(config(), [][]api.Op{{}}, []int{0, 7, -1})
	if r.Code != api.OK || !slices.Equal(r.Tasks, []int{0, 7, -1}) || len(r.Events) != 0 {
		t.Errorf("%v, the tasks %v, the events %v", r.Code, r.Tasks, r.Events)
	}
	if !slices.Equal(r.Trace, make([]api.Access, 3)) || !slices.Equal(r.Live, []int{1, 1, 1}) {
		t.Errorf("the trace %v, out are %v", r.Trace, r.Live)
	}
}

func TestTheExamplesOfRelay(t *testing.T) {
	wantNumbers(t, "Relay(1 2 3; 10 100)", crew.Relay([]int{1, 2, 3}, []int{10, 100}), []int{111, 112, 113})
	wantNumbers(t, "Relay(1 2; none)", crew.Relay([]int{1, 2}, nil), []int{1, 2})
	wantNumbers(t, "Relay(none; 5)", crew.Relay(nil, []int{5}), nil)
	wantNumbers(t, "Relay(the greatest; 1)", crew.Relay([]int{math.MaxInt}, []int{1}), []int{math.MinInt})
	wantNumbers(t, "Relay(1; 65 adds)", crew.Relay([]int{1}, make([]int, 65)), nil)
}

func TestTheExamplesOfMerge(t *testing.T) {
	wantNumbers(t, "Merge(1 2, 7 8 9; 1 0 1 1 1 0 0)", crew.Merge([][]int{{1, 2}, {7, 8, 9}}, []int{1, 0, 1, 1, 1, 0, 0}), []int{7, 1, 8, 9, 2})
	wantNumbers(t, "Merge(1 2; 5 -1 0)", crew.Merge([][]int{{1, 2}}, []int{5, -1, 0}), []int{1})
	wantNumbers(t, "Merge(1 2 3; none)", crew.Merge([][]int{{1, 2, 3}}, nil), nil)
	wantNumbers(t, "Merge(none; 0)", crew.Merge(nil, []int{0}), nil)
}

// The document's examples 3 and 4 of the whole: the same run by goroutines.
func TestTheRevokeWaits(t *testing.T) {
	r := wantPlayed(t, config(), tasks(), list(t, "0:4 1:30 0:11 1:3"))
	want := []api.Event{
		{Kind: api.OpRegister, Point: -1, Steps: 1},
		{Number: 1, Kind: api.OpCheck, Began: 1, Ended: 44, Point: 3, Steps: 14, Allowed: true, Version: 1},
		{Task: 1, Kind: api.OpRevoke, Began: 4, Ended: 47, Point: 32, Steps: 33, Version: 2},
	}
	if !slices.Equal(r.Events, want) {
		t.Errorf("the events are %+v, want %+v", r.Events, want)
	}

	r = wantPlayed(t, config(), tasks(), list(t, "1:33 0:15"))
	if e := r.Events[len(r.Events)-1]; e.Kind != api.OpCheck || e.Allowed || e.Version != 2 {
		t.Errorf("behind the revoke: %+v", e)
	}
}
