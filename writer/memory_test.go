package writer_test

import (
	"maps"
	"reflect"
	"slices"
	"strings"
	"testing"
	"unsafe"

	"gatehouse/api"
	"gatehouse/own"
	"gatehouse/writer"
)

// 24.9

// ownTexts makes each text of a value a text of its own.
func ownTexts(v reflect.Value) {
	switch v.Kind() {
	case reflect.String:
		v.SetString(strings.Clone(v.String()))
	case reflect.Struct:
		for i := range v.NumField() {
			ownTexts(v.Field(i))
		}
	case reflect.Slice:
		for i := range v.Len() {
			ownTexts(v.Index(i))
		}
	}
}

// scribble writes over all that the lists of a value have, and over their spare room.
func scribble(v reflect.Value) {
	switch v.Kind() {
	case reflect.Struct:
		for i := range v.NumField() {
			scribble(v.Field(i))
		}
	case reflect.Slice:
		all := v.Slice(0, v.Cap())
		for i := range all.Len() {
			scribble(all.Index(i))
			all.Index(i).SetZero()
		}
	}
}

// handed are operations of each kind, in memory of their own, with spare room in which something stands.
func handed() []api.Op {
	rule := api.Rule{Who: "ann", What: "door", Actions: []string{"open", "read", "spare"}[:2]}
	deltas := []api.Delta{
		{Kind: api.DeltaRole, Name: "clerk"},
		{Kind: api.DeltaSubject, Name: "eve", Trust: 0.5},
		{Kind: api.DeltaMember, Pair: api.Pair{From: "eve", To: "clerk"}},
		{Kind: api.DeltaAllow, Rule: rule},
		{Kind: api.DeltaExcept, Triple: api.Triple{Subject: "eve", Object: "door", Action: "read"}},
		{Kind: api.DeltaRole, Name: "spare"},
	}
	return []api.Op{update(wide + "subject zoe;"), apply(deltas[:5]...), {Kind: api.OpRevoke, Triple: door}}
}

// wide has two actions.
const wide = "action open, read; subject ann; object door; allow ann on door: open;"

// The operation is written over behind New, or behind any of the first steps: what it was is what is done.
func TestTheOperationIsWrittenOver(t *testing.T) {
	want := []string{wide + "subject zoe;", wide + "role clerk; subject eve trust 0.5; member eve : clerk; allow ann on door: open, read; except eve on door: read;", wide + "except ann on door: open;"}
	for i := range handed() {
		for written := range 9 {
			b := benchOf(t, 300, 1, 2000, 0)
			wantBegun(t, b, 5, load(t, wide), 6)
			p := planOf(t, b, load(t, want[i]))
			op := handed()[i]
			x := made(t, b, op)
			list := strings.Fields(p.accesses())
			wantSteps(t, b, x, 0, strings.Join(list[:written], " "))
			scribble(reflect.ValueOf(&op).Elem())
			wantRun(t, b, x, written, strings.Join(list[written:], " "))
			wantTold(t, b, x, p.point(), p.freed(), p.outcome())
			wantPolicy(t, b, p.page, load(t, want[i]))
			if last, _ := b.Journal.Last(); last != (api.Entry{Version: 6, Text: textOf(t, load(t, want[i]))}) {
				t.Errorf("the last record is %+v", last)
			}
		}
	}
}

// The policy is written over behind Begin: the book, the journal and the index have what it was.
func TestThePolicyIsWrittenOver(t *testing.T) {
	for _, text := range texts() {
		b := benchOf(t, 5000, 1, 20000, 0)
		p := load(t, text)
		was := own.Policy(p)
		wantBegun(t, b, 5, p, 6)
		scribble(reflect.ValueOf(&p).Elem())
		wantPolicy(t, b, 6, was)
		if last, _ := b.Journal.Last(); last.Text != textOf(t, was) {
			t.Errorf("%q: the journal has %q", text, last.Text)
		}
	}
}

// What is handed in stays as it is, its spare room too.
func TestWhatIsHandedInStays(t *testing.T) {
	b := benchOf(t, 300, 1, 2000, 0)
	p := load(t, house)
	p.Actions, p.Excepts = append(p.Actions, "spare")[:len(p.Actions)], append(p.Excepts, door)[:len(p.Excepts)]
	before := own.Policy(p)
	wantBegun(t, b, 5, p, 6)
	if !reflect.DeepEqual(own.Policy(p), before) || p.Actions[:len(p.Actions)+1][len(p.Actions)] != "spare" || p.Excepts[:len(p.Excepts)+1][len(p.Excepts)] != door {
		t.Errorf("the policy has become %+v", p)
	}
	for i, op := range handed() {
		was := own.Op(op)
		x := made(t, b, op)
		toEnd(t, x)
		if !reflect.DeepEqual(own.Op(op), was) {
			t.Errorf("the operation %d has become %+v", i, op)
		}
		if i == 1 && (op.Deltas[:6][5].Name != "spare" || op.Deltas[3].Rule.Actions[:3][2] != "spare") {
			t.Errorf("the spare room has become %+v", op.Deltas[:6])
		}
	}
}

// places are where the texts and the lists of a value lie.
func places(v reflect.Value, seen map[unsafe.Pointer]struct{}) {
	switch v.Kind() {
	case reflect.String:
		if v.Len() > 0 {
			seen[unsafe.Pointer(unsafe.StringData(v.String()))] = struct{}{}
		}
	case reflect.Struct:
		for i := range v.NumField() {
			places(v.Field(i), seen)
		}
	case reflect.Slice:
		all := v.Slice(0, v.Cap())
		for i := range all.Len() {
			seen[all.Index(i).Addr().UnsafePointer()] = struct{}{}
			places(all.Index(i), seen)
		}
	}
}

// The policies of the book share no memory with one another, nor with what was handed in; the index's names neither.
func TestTheBookSharesNothing(t *testing.T) {
	b := benchOf(t, 3000, 1, 20000, api.FlawNone)
	p := load(t, small)
	ownTexts(reflect.ValueOf(&p).Elem())
	seen := map[unsafe.Pointer]struct{}{}
	places(reflect.ValueOf(p), seen)
	given := maps.Clone(seen)
	wantBegun(t, b, 5, p, 6)
	apart := func(what string, at int) {
		mine := map[unsafe.Pointer]struct{}{}
		places(reflect.ValueOf(b.Book[at]), mine)
		for place := range mine {
			if _, there := seen[place]; there {
				t.Errorf("%s: the policy at %d shares memory", what, at)
				return
			}
		}
		for place := range mine {
			seen[place] = struct{}{}
		}
	}
	apart("Begin", 6)
	for _, c := range changes() {
		op := own.Op(c.op) // its texts are its own
		places(reflect.ValueOf(op), seen)
		places(reflect.ValueOf(op), given)
		x := made(t, b, op)
		toEnd(t, x)
		apart("a write", x.Outcome().Page)
		if t.Failed() {
			t.Fatalf("%+v", c.op)
		}
		// The next page lies elsewhere, so that the one of before stays in the book.
		must(t, "Take", codeOf(b.Arena.Take(1)))
	}
	for _, name := range b.Index.All() {
		if _, there := given[unsafe.Pointer(unsafe.StringData(name))]; there {
			t.Errorf("the index has %s as it was handed in", name)
		}
	}
}

// Two machines of one operation: neither knows of the other.
func TestOneOperationTwice(t *testing.T) {
	b := site(t, 0)
	op := apply(newSubject("eve"))
	x, y := made(t, b, op), made(t, b, op)
	op.Deltas[0].Name = "zoe"
	z := made(t, b, op)
	var codes []api.Errno
	for _, m := range []*writer.Machine{x, y, z} {
		toEnd(t, m)
		codes = append(codes, m.Outcome().Code)
	}
	if !slices.Equal(codes, []api.Errno{api.OK, api.ErrTwice, api.OK}) {
		t.Errorf("the codes are %v", codes)
	}
	wantPolicy(t, b, z.Outcome().Page, load(t, "action open; subject ann; subject eve trust 0.5; subject zoe trust 0.5; object door; allow ann on door: open;"))
}
