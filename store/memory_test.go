package store_test

import (
	"reflect"
	"strings"
	"testing"
	"unsafe"

	"gatehouse/api"
	"gatehouse/own"
	"gatehouse/store"
)

// R5: what is handed in, and what is answered, is nobody else's.

// ownTexts makes each text of a value a text of its own.
func ownTexts(v reflect.Value) {
	switch v.Kind() {
	case reflect.String:
		v.SetString(strings.Clone(v.String()))
	case reflect.Struct:
		for i := range v.NumField() {
			ownTexts(v.Field(i))
		}
	case reflect.Slice:
		for i := range v.Len() {
			ownTexts(v.Index(i))
		}
	}
}

// scribble writes over all that the lists of a value have, and over their spare room.
func scribble(v reflect.Value) {
	switch v.Kind() {
	case reflect.Int, reflect.Int8:
		v.SetInt(99)
	case reflect.String:
		v.SetString("scribbled")
	case reflect.Bool:
		v.SetBool(!v.Bool())
	case reflect.Struct:
		for i := range v.NumField() {
			scribble(v.Field(i))
		}
	case reflect.Slice:
		all := v.Slice(0, v.Cap())
		for i := range all.Len() {
			scribble(all.Index(i))
		}
	}
}

// places are where the texts and the lists of a value lie. What is answered ("the" is said of what is handed in) must lie where nothing else does.
func places(t *testing.T, what string, v reflect.Value, seen map[unsafe.Pointer]string) {
	t.Helper()
	put := func(at unsafe.Pointer) {
		if other, there := seen[at]; there && !strings.HasPrefix(what, "the ") && !t.Failed() {
			t.Errorf("%s shares memory with %s", what, other)
		}
		seen[at] = what
	}
	switch v.Kind() {
	case reflect.String:
		if v.Len() > 1 { // texts of one byte are the same everywhere
			put(unsafe.Pointer(unsafe.StringData(v.String())))
		}
	case reflect.Struct:
		for i := range v.NumField() {
			places(t, what+"."+v.Type().Field(i).Name, v.Field(i), seen)
		}
	case reflect.Slice:
		all := v.Slice(0, v.Cap())
		for i := range all.Len() {
			x := all.Index(i)
			if x.Kind() != reflect.Struct && x.Kind() != reflect.Slice { // a struct lies where its first field does
				put(x.Addr().UnsafePointer())
			}
			places(t, what, x, seen)
		}
	}
}

// wide are tasks of operations of all kinds, in memory of their own, with spare room in which something stands.
func wide() [][]api.Op {
	rule := api.Rule{Who: "ann", What: "door", Actions: []string{"open", "spare"}[:1]}
	deltas := []api.Delta{
		{Kind: api.DeltaSubject, Name: "eve", Trust: 0.5},
		{Kind: api.DeltaAllow, Rule: rule},
		{Kind: api.DeltaExcept, Triple: api.Triple{Subject: "eve", Object: "door", Action: "open"}},
		{Kind: api.DeltaRole, Name: "spare"},
	}
	first := []api.Op{register(), check(door), apply(deltas[:3]...), check(api.Triple{Subject: "eve", Object: "door", Action: "open"}), version(), register()}
	list := [][]api.Op{
		first[:5],
		{revoke(door), update(small + "subject zoe;"), {Kind: 9, Text: "none"}, unregister()},
		{update("spare")},
	}
	ownTexts(reflect.ValueOf(list))
	return list[:2]
}

func wideConfig() api.Config {
	c := api.Config{Text: strings.Clone(small), Slots: 2, Sets: 1, Ways: 2, Words: 300, First: 5, Disk: 4000}
	return c
}

// order has steps of both tasks.
func order(t *testing.T) []int {
	t.Helper()
	return picks(t, "0:7 1:9 0:10 1:30 0:20 1:20 0:60 1:90 0:90")
}

// What was handed in is written over behind New: what it was is what is done.
func TestWhatIsHandedInIsWrittenOver(t *testing.T) {
	want := store.Play(wideConfig(), wide(), order(t))
	for written := range 120 {
		list := wide()
		s := made(t, wideConfig(), list)
		for i, task := range order(t) {
			if i == written {
				scribble(reflect.ValueOf(list))
			}
			s.Pick(task)
		}
		wantSame(t, s.Run(), want)
		if t.Failed() {
			t.Fatalf("written over behind %d picks", written)
		}
	}
}

// What is handed in stays as it is, its spare room too.
func TestWhatIsHandedInStays(t *testing.T) {
	list, was := wide(), wide()
	p := append(order(t), 77)
	r := store.Play(wideConfig(), list, p[:len(p)-1])
	scribble(reflect.ValueOf(&r).Elem())
	if !reflect.DeepEqual(list[:3], was[:3]) || list[0][:6][5].Kind != api.OpRegister || list[0][2].Deltas[:4][3].Name != "spare" || list[0][2].Deltas[1].Rule.Actions[:2][1] != "spare" {
		t.Errorf("the tasks have become %+v", list[:3])
	}
	if !reflect.DeepEqual(p, append(order(t), 77)) {
		t.Errorf("the picks have become %v", p)
	}
}

// What Run answered is written over: the store goes on as if it had not been.
func TestWhatIsAnsweredIsWrittenOver(t *testing.T) {
	want := store.Play(wideConfig(), wide(), order(t))
	s := made(t, wideConfig(), wide())
	for _, task := range order(t) {
		r := s.Run()
		scribble(reflect.ValueOf(&r).Elem())
		s.Pick(task)
	}
	wantSame(t, s.Run(), want)
}

// No two lists or texts of an answer lie in one place, nor where something that was handed in lies, nor where those of another answer do.
func TestAnswersShareNothing(t *testing.T) {
	seen := map[unsafe.Pointer]string{}
	list, c, p := wide(), wideConfig(), order(t)
	places(t, "the tasks", reflect.ValueOf(list), seen)
	places(t, "the configuration", reflect.ValueOf(c), seen)
	places(t, "the picks", reflect.ValueOf(p), seen)
	s := made(t, c, list)
	for i, task := range p {
		if i == 0 || i == 100 {
			places(t, "a run", reflect.ValueOf(s.Run()), seen)
		}
		s.Pick(task)
	}
	r := s.Run()
	places(t, "Run", reflect.ValueOf(r), seen)
	places(t, "Run once more", reflect.ValueOf(s.Run()), seen)
	places(t, "Play", reflect.ValueOf(store.Play(c, list, p)), seen)
	d, _ := store.Recover(c, r.Disk)
	places(t, "Recover", reflect.ValueOf(d), seen)
	if len(r.Versions) != 4 || len(seen) < 1000 {
		t.Errorf("%d versions, %d places", len(r.Versions), len(seen))
	}
}

// The versions' policies are what they were when they were published, whatever comes later.
func TestPoliciesStay(t *testing.T) {
	s := made(t, wideConfig(), wide())
	was := map[int]api.Policy{}
	for _, task := range order(t) {
		s.Pick(task)
		for i, v := range s.Run().Versions {
			if p, there := was[i]; there && !reflect.DeepEqual(p, v.Policy) {
				t.Fatalf("the policy of the version %d has become %+v, from %+v", v.Number, v.Policy, p)
			}
			was[i] = own.Policy(v.Policy)
		}
	}
	if len(was) != 4 {
		t.Errorf("%d versions", len(was))
	}
}
