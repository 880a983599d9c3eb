package crew_test

import (
	"reflect"
	"slices"
	"strings"
	"testing"
	"unsafe"

	"gatehouse/api"
	"gatehouse/crew"
	"gatehouse/store"
)

// R5: what is handed in, and what is answered, is nobody else's.

// scribble writes over all that the lists of a value have, and over their spare room.
func scribble(v reflect.Value) {
	switch v.Kind() {
	case reflect.Int, reflect.Int8:
		v.SetInt(99)
	case reflect.String:
		v.SetString("scribbled")
	case reflect.Bool:
		v.SetBool(!v.Bool())
	case reflect.Struct:
		for i := range v.NumField() {
			scribble(v.Field(i))
		}
	case reflect.Slice:
		all := v.Slice(0, v.Cap())
		for i := range all.Len() {
			scribble(all.Index(i))
		}
	}
}

// places are where the texts and the lists of a value lie. What is answered ("the" is said of what is handed in) must lie where nothing else does.
func places(t *testing.T, what string, v reflect.Value, seen map[unsafe.Pointer]string) {
	t.Helper()
	put := func(at unsafe.Pointer) {
		if other, there := seen[at]; there && !strings.HasPrefix(what, "the ") && !t.Failed() {
			t.Errorf("%s shares memory with %s", what, other)
		}
		seen[at] = what
	}
	switch v.Kind() {
	case reflect.String:
		if v.Len() > 1 { // texts of one byte are the same everywhere
			put(unsafe.Pointer(unsafe.StringData(v.String())))
		}
	case reflect.Struct:
		for i := range v.NumField() {
			places(t, what+"."+v.Type().Field(i).Name, v.Field(i), seen)
		}
	case reflect.Slice:
		all := v.Slice(0, v.Cap())
		for i := range all.Len() {
			x := all.Index(i)
			if x.Kind() != reflect.Struct && x.Kind() != reflect.Slice { // a struct lies where its first field does
				put(x.Addr().UnsafePointer())
			}
			places(t, what, x, seen)
		}
	}
}

// wideTasks are tasks of operations of all kinds, with spare room in which something stands.
func wideTasks() [][]api.Op {
	rule := api.Rule{Who: "ann", What: "door", Actions: []string{"open", "spare"}[:1]}
	deltas := []api.Delta{
		{Kind: api.DeltaSubject, Name: "eve", Trust: 0.5},
		{Kind: api.DeltaAllow, Rule: rule},
		{Kind: api.DeltaExcept, Triple: api.Triple{Subject: "eve", Object: "door", Action: "open"}},
		{Kind: api.DeltaRole, Name: "spare"},
	}
	first := []api.Op{register(), check(door), apply(deltas[:3]...), check(api.Triple{Subject: "eve", Object: "door", Action: "open"}), version(), register()}
	l := [][]api.Op{
		first[:5],
		{revoke(door), update(strings.Clone(small + "subject zoe;")), {Kind: 9, Text: "none"}, unregister()},
		{update("spare")},
	}
	return l[:2]
}

func wideConfig() api.Config {
	return api.Config{Text: strings.Clone(small), Slots: 2, Sets: 1, Ways: 2, Words: 300, First: 5, Disk: 4000}
}

// wideOrder has steps of both tasks, and moments of none.
func wideOrder(t *testing.T) []int {
	t.Helper()
	return list(t, "0:7 -1 1:9 0:10 2 1:30 0:20 1:20 0:60 1:90 0:90")
}

func TestWhatIsHandedToPlayStays(t *testing.T) {
	l, was := wideTasks(), wideTasks()
	picks := append(wideOrder(t), 77)
	r := crew.Play(wideConfig(), l, picks[:len(picks)-1])
	wantSame(t, r, store.Play(wideConfig(), was, wideOrder(t)))
	scribble(reflect.ValueOf(&r).Elem())
	if !reflect.DeepEqual(l[:3], was[:3]) || l[0][:6][5].Kind != api.OpRegister || l[0][2].Deltas[:4][3].Name != "spare" || l[0][2].Deltas[1].Rule.Actions[:2][1] != "spare" {
		t.Errorf("the tasks have become %+v", l[:3])
	}
	if !slices.Equal(picks, append(wideOrder(t), 77)) {
		t.Errorf("the picks have become %v", picks)
	}
}

func TestPlaysAnswerIsWrittenOver(t *testing.T) {
	l, picks := wideTasks(), wideOrder(t)
	want := store.Play(wideConfig(), wideTasks(), picks)
	first := crew.Play(wideConfig(), l, picks)
	second := crew.Play(wideConfig(), l, picks)
	scribble(reflect.ValueOf(&first).Elem())
	wantSame(t, second, want)
	wantSame(t, crew.Play(wideConfig(), l, picks), want)

	scribble(reflect.ValueOf(l))
	scribble(reflect.ValueOf(picks))
	wantSame(t, second, want)
}

func TestPlaysAnswerSharesNothing(t *testing.T) {
	seen := map[unsafe.Pointer]string{}
	l, c, picks := wideTasks(), wideConfig(), wideOrder(t)
	places(t, "the tasks", reflect.ValueOf(l), seen)
	places(t, "the configuration", reflect.ValueOf(c), seen)
	places(t, "the picks", reflect.ValueOf(picks), seen)
	r := crew.Play(c, l, picks)
	places(t, "Play", reflect.ValueOf(r), seen)
	places(t, "Play once more", reflect.ValueOf(crew.Play(c, l, picks)), seen)
	if len(r.Versions) != 4 || len(seen) < 1000 {
		t.Errorf("%d versions, %d places", len(r.Versions), len(seen))
	}
}

// roomy is a list with spare room, in which something stands.
func roomy(numbers ...int) []int { return append(numbers, 41, 42, 43)[:len(numbers)] }

// wantRoomy asks for a list and its spare room as they were.
func wantRoomy(t *testing.T, what string, l []int, numbers ...int) {
	t.Helper()
	wantNumbers(t, what+", and its spare room,", l[:len(l)+3], append(slices.Clone(numbers), 41, 42, 43))
}

// overwrite writes over a list and its spare room.
func overwrite(l []int) {
	for i := range l[:cap(l)] {
		l[:cap(l)][i] = 99
	}
}

func TestRelayKeepsAndSharesNothing(t *testing.T) {
	for _, numbers := range [][]int{nil, {0}, {10}, {10, -20, 5}} {
		values, adds := roomy(1, 2, 3), roomy(numbers...)
		want := added([]int{1, 2, 3}, numbers)
		first, second := crew.Relay(values, adds), crew.Relay(values, adds)
		wantRoomy(t, "the values", values, 1, 2, 3)
		wantRoomy(t, "the adds", adds, numbers...)
		overwrite(first)
		wantRoomy(t, "the values", values, 1, 2, 3)
		wantRoomy(t, "the adds", adds, numbers...)
		overwrite(values)
		overwrite(adds)
		wantNumbers(t, "the other answer", second, want)
	}
	same := roomy(1, 2, 3)
	wantNumbers(t, "Relay of a list with itself", crew.Relay(same, same), []int{7, 8, 9})
	wantRoomy(t, "the list", same, 1, 2, 3)
}

func TestMergeKeepsAndSharesNothing(t *testing.T) {
	one, two, turns := roomy(1, 2), roomy(7, 8, 9), roomy(1, 0, 1, 5, 0, 0)
	parts := [][]int{one, two, {3}}[:2]
	want := []int{7, 1, 8, 2}
	first, second := crew.Merge(parts, turns), crew.Merge(parts, turns)
	wantNumbers(t, "Merge", first, want)
	for range 2 {
		wantRoomy(t, "the one part", one, 1, 2)
		wantRoomy(t, "the other part", two, 7, 8, 9)
		wantRoomy(t, "the turns", turns, 1, 0, 1, 5, 0, 0)
		if len(parts[:3][2]) != 1 || &parts[0][0] != &one[0] || len(parts[0]) != 2 || len(parts[1]) != 3 {
			t.Errorf("the parts have become %v", parts[:3])
		}
		overwrite(first)
	}
	overwrite(one)
	overwrite(two)
	overwrite(turns)
	parts[0], parts[1] = nil, nil
	wantNumbers(t, "the other answer", second, want)

	whole := roomy(4, 5)
	answer := crew.Merge([][]int{whole}, []int{0, 0})
	overwrite(answer)
	wantRoomy(t, "a part that was taken whole", whole, 4, 5)
	wantNumbers(t, "Merge of the same part twice", crew.Merge([][]int{whole, whole}, []int{0, 1, 1, 0}), []int{4, 4, 5, 5})
}

// Refusals answer nothing that could be shared.
func TestRefusalsAnswerNothing(t *testing.T) {
	values, adds := make([]int, 3, 99), make([]int, 65, 99)
	if l := crew.Relay(values, adds); len(l) != 0 || cap(l) != 0 {
		t.Errorf("Relay: %v, with room for %d", l, cap(l))
	}
	if l := crew.Merge(make([][]int, 65, 99), values); len(l) != 0 || cap(l) != 0 {
		t.Errorf("Merge: %v, with room for %d", l, cap(l))
	}
}
