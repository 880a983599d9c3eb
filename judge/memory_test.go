package judge_test

import (
	"reflect"
	"slices"
	"strings"
	"testing"
	"unsafe"

	"gatehouse/api"
	"gatehouse/judge"
)

// R3, R4 and R5: what is handed in, and what is answered, is nobody else's.

// scribble writes over all that the lists of a value have, and over their spare room.
func scribble(v reflect.Value) {
	switch v.Kind() {
	case reflect.Int, reflect.Int8:
		v.SetInt(99)
	case reflect.String:
		v.SetString("scribbled")
	case reflect.Bool:
		v.SetBool(!v.Bool())
	case reflect.Float64:
		v.SetFloat(0.99)
	case reflect.Struct:
		for i := range v.NumField() {
			scribble(v.Field(i))
		}
	case reflect.Slice:
		all := v.Slice(0, v.Cap())
		for i := range all.Len() {
			scribble(all.Index(i))
		}
	}
}

// places are where the texts and the lists of a value lie. What is answered ("the" is said of what is handed in) must lie where nothing else does.
func places(t *testing.T, what string, v reflect.Value, seen map[unsafe.Pointer]string) {
	t.Helper()
	put := func(at unsafe.Pointer) {
		if other, there := seen[at]; there && !strings.HasPrefix(what, "the ") && !t.Failed() {
			t.Errorf("%s shares memory with %s", what, other)
		}
		seen[at] = what
	}
	switch v.Kind() {
	case reflect.String:
		if v.Len() > 1 { // texts of one byte are the same everywhere
			put(unsafe.Pointer(unsafe.StringData(v.String())))
		}
	case reflect.Struct:
		for i := range v.NumField() {
			places(t, what+"."+v.Type().Field(i).Name, v.Field(i), seen)
		}
	case reflect.Slice:
		all := v.Slice(0, v.Cap())
		for i := range all.Len() {
			x := all.Index(i)
			if x.Kind() != reflect.Struct && x.Kind() != reflect.Slice { // a struct lies where its first field does
				put(x.Addr().UnsafePointer())
			}
			places(t, what, x, seen)
		}
	}
}

// spare has room behind it in which something stands.
func spare[T any](things ...T) []T { return things[:len(things)-1] }

// full is a policy in which each list has something, with spare room.
func full(rules ...api.Rule) api.Policy {
	return api.Policy{
		Actions:  spare("open", "read", "spare"),
		Subjects: spare(api.Subject{Name: "ann", Trust: 0.5}, api.Subject{Name: "bob"}, api.Subject{Name: "spare"}),
		Roles:    spare("clerk", "spare"),
		Objects:  spare("door", "gate", "spare"),
		Groups:   spare("building", "spare"),
		Members:  spare(api.Pair{From: "ann", To: "clerk"}, api.Pair{From: "bob", To: "clerk"}),
		Inherits: spare(api.Pair{From: "clerk", To: "guard"}, api.Pair{From: "bob", To: "clerk"}),
		Parts:    spare(api.Pair{From: "door", To: "building"}, api.Pair{From: "gate", To: "building"}),
		Withins:  spare(api.Pair{From: "building", To: "town"}, api.Pair{From: "gate", To: "town"}),
		Rules:    spare(append(rules, api.Rule{Who: "spare"})...),
		Excepts:  spare(api.Triple{Subject: "bob", Object: "gate", Action: "read"}, door),
	}
}

func allowed() api.Policy {
	return full(api.Rule{Who: "clerk", What: "building", Actions: spare("open", "spare"), Cond: api.Above, Level: 0.5})
}

func denied() api.Policy {
	return full(api.Rule{Deny: true, Who: "bob", What: "gate", Actions: spare("read", "spare")})
}

// wide is a run that keeps all promises, with its tasks: two writes of one version among others, all with spare room.
func wide() ([][]api.Op, api.Run) {
	restore := api.Op{Kind: api.OpApply, Text: "text", Deltas: spare(api.Delta{Name: "restored"}, api.Delta{Name: "spare"})}
	tasks := spare(
		spare(checkOf(door), checkOf(door), checkOf(api.Triple{Subject: "bob", Object: "gate", Action: "read"}), register()),
		spare(revokeOf(door), restore, restore, register()),
		spare(register()),
	)
	r := api.Run{
		Events: spare(
			api.Event{Kind: api.OpCheck, Ended: 5, Point: 2, Steps: 6, Allowed: true, Version: 1},
			api.Event{Task: 1, Kind: api.OpRevoke, Began: 1, Ended: 9, Point: 4, Steps: 8, Version: 2},
			api.Event{Number: 1, Kind: api.OpCheck, Began: 10, Ended: 12, Point: 11, Steps: 3, Version: 2},
			api.Event{Task: 1, Number: 1, Kind: api.OpApply, Began: 13, Ended: 16, Point: 14, Steps: 3, Version: 3},
			api.Event{Task: 1, Number: 2, Kind: api.OpApply, Began: 13, Ended: 16, Point: 14, Steps: 3, Version: 3},
			api.Event{Number: 2, Kind: api.OpCheck, Began: 17, Ended: 19, Point: 18, Steps: 3, Version: 3},
			api.Event{Kind: api.OpCheck, Allowed: true},
		),
		Tasks: spare(1, 2, 77),
		Trace: spare(api.Access{Kind: api.AccessLoad, Good: true}, api.Access{Kind: api.AccessTake, Value: 8, Good: true}, api.Access{Kind: api.AccessLoad}),
		Versions: spare(
			api.Version{Number: 1, Size: 8, Point: -1, Gone: 8, Policy: allowed()},
			api.Version{Number: 2, Size: 8, Point: 4, Gone: 15, Policy: denied()},
			api.Version{Number: 3, Size: 8, Point: 14, Gone: -1, Policy: allowed()},
			api.Version{Number: 9},
		),
		Live:    spare(1, 1, 2, 2, 1, 99),
		Stats:   spare(api.Stats{Hits: 1}, api.Stats{Hits: 2}),
		Symbols: spare("open", "read", "spare"),
		Disk:    "disk",
	}
	return tasks, r
}

// wideCalls are calls with an order, and too many of them with spare room.
func wideCalls() []api.Call {
	return spare(
		api.Call{Began: 0, Ended: 9, Write: true, Policy: allowed(), Triple: door},
		api.Call{Began: 0, Ended: 9, Allowed: true, Policy: denied(), Triple: door},
		api.Call{Began: 0, Ended: 9, Write: true, Policy: denied()},
		api.Call{Began: 0, Ended: 9, Triple: door},
		api.Call{Began: -1},
	)
}

// whole is a value with its spare room seen.
func whole(x any) any {
	c := reflect.New(reflect.TypeOf(x)).Elem()
	c.Set(reflect.ValueOf(x))
	uncover(c)
	return c.Interface()
}

func uncover(v reflect.Value) {
	switch v.Kind() {
	case reflect.Struct:
		for i := range v.NumField() {
			uncover(v.Field(i))
		}
	case reflect.Slice:
		all := reflect.MakeSlice(v.Type(), v.Cap(), v.Cap())
		reflect.Copy(all, v.Slice(0, v.Cap()))
		v.Set(all)
		for i := range all.Len() {
			uncover(all.Index(i))
		}
	}
}

func TestWhatIsHandedInStays(t *testing.T) {
	tasks, r := wide()
	wasTasks, wasRun := wide()
	first, calls, order := denied(), wideCalls(), spare(3, 0, 1, 2, 77)
	if b := judge.Breach(tasks, r); b != api.BreachNone {
		t.Fatalf("Breach = %d", b)
	}
	if !judge.Answers(tasks, r) || !judge.Revoked(tasks, r) || !judge.Unpoisoned(r) || !judge.Few(r) || !judge.Quick(r) {
		t.Fatal("a promise is broken")
	}
	of, at := judge.Calls(tasks, r)
	found, there, e := judge.Linear(first, calls)
	if len(of) != 6 || len(at) != 6 || !there || e != api.OK || !judge.Follows(first, calls, order) {
		t.Fatalf("%v, %v, %v, %v", of, found, there, e)
	}
	scribble(reflect.ValueOf(of))
	scribble(reflect.ValueOf(at))
	scribble(reflect.ValueOf(found))
	if !reflect.DeepEqual(whole(tasks), whole(wasTasks)) {
		t.Errorf("the tasks have become %+v", whole(tasks))
	}
	if !reflect.DeepEqual(whole(r), whole(wasRun)) {
		t.Errorf("the run has become %+v", whole(r))
	}
	if !reflect.DeepEqual(whole(first), whole(denied())) || !reflect.DeepEqual(whole(calls), whole(wideCalls())) || !reflect.DeepEqual(order[:5], []int{3, 0, 1, 2, 77}) {
		t.Errorf("the calls have become %+v, the order %v", whole(calls), order)
	}
}

// What was handed in is written over behind the answer: that stays.
func TestAnswersStay(t *testing.T) {
	tasks, r := wide()
	want, places := judge.Calls(wide())
	calls, at := judge.Calls(tasks, r)
	scribble(reflect.ValueOf(tasks))
	scribble(reflect.ValueOf(&r).Elem())
	if !alike(calls, want) || !slices.Equal(at, places) || !slices.Equal(places, []int{0, 1, 2, 3, 4, 5}) {
		t.Errorf("the calls have become %+v at %v", calls, at)
	}
	given := wideCalls()
	order, _, _ := judge.Linear(denied(), given)
	scribble(reflect.ValueOf(given))
	if !slices.Equal(order, []int{0, 1, 2, 3}) {
		t.Errorf("the order has become %v", order)
	}
}

// An answer that is written over changes no other one.
func TestAnswersAreWrittenOver(t *testing.T) {
	tasks, r := wide()
	want, places := judge.Calls(wide())
	for range 3 {
		calls, at := judge.Calls(tasks, r)
		order, there, e := judge.Linear(denied(), wideCalls())
		if !alike(calls, want) || !slices.Equal(at, places) || !slices.Equal(order, []int{0, 1, 2, 3}) || !there || e != api.OK {
			t.Fatalf("%+v at %v, the order %v", calls, at, order)
		}
		scribble(reflect.ValueOf(calls))
		scribble(reflect.ValueOf(at))
		scribble(reflect.ValueOf(order))
	}
}

// No two lists or texts of an answer lie in one place, nor where something that was handed in lies, nor where those of another answer do.
func TestAnswersShareNothing(t *testing.T) {
	seen := map[unsafe.Pointer]string{}
	tasks, r := wide()
	tasks[0][0].Triple = api.Triple{Subject: strings.Clone("ann"), Object: strings.Clone("door"), Action: strings.Clone("open")}
	tasks[0][1].Triple = tasks[0][0].Triple // two checks of the same texts
	given := wideCalls()
	places(t, "the tasks", reflect.ValueOf(tasks), seen)
	places(t, "the run", reflect.ValueOf(r), seen)
	places(t, "the calls", reflect.ValueOf(given), seen)
	for range 2 {
		calls, at := judge.Calls(tasks, r)
		places(t, "Calls", reflect.ValueOf(calls), seen)
		places(t, "Calls' places", reflect.ValueOf(at), seen)
		order, _, _ := judge.Linear(denied(), given)
		places(t, "an order", reflect.ValueOf(order), seen)
	}
	if len(seen) < 200 {
		t.Errorf("%d places", len(seen))
	}
}

// R4: no list and one without elements are the same; R3: so is what lies behind it.
func TestNoListAndEmptyOnes(t *testing.T) {
	for _, calls := range [][]api.Call{nil, {}, wideCalls()[:0]} {
		order, found, e := judge.Linear(api.Policy{}, calls)
		if len(order) != 0 || !found || e != api.OK {
			t.Errorf("Linear = %v, %v, %v", order, found, e)
		}
		for _, order := range [][]int{nil, {}, spare(1)} {
			if !judge.Follows(api.Policy{}, calls, order) {
				t.Error("the order of no calls is not followed")
			}
		}
	}
	empty := api.Policy{Actions: []string{}, Subjects: []api.Subject{}, Objects: []string{}, Rules: []api.Rule{}, Excepts: []api.Triple{}}
	one := []api.Call{{Write: true, Policy: empty}, {Began: 1, Ended: 1, Triple: door}}
	if order, found, e := judge.Linear(empty, one); !slices.Equal(order, []int{0, 1}) || !found || e != api.OK {
		t.Errorf("Linear = %v, %v, %v", order, found, e)
	}
	tasks, r := wide()
	for range 2 {
		if b := judge.Breach(tasks, r); b != api.BreachNone {
			t.Errorf("Breach = %d", b)
		}
		tasks, r = slices.Clip(tasks), api.Run{Events: slices.Clip(r.Events), Trace: slices.Clip(r.Trace), Versions: slices.Clip(r.Versions), Live: slices.Clip(r.Live)}
	}
}
