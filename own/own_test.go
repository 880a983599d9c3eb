package own_test

import (
	"reflect"
	"slices"
	"testing"
	"unsafe"

	"gatehouse/api"
	"gatehouse/own"
)

// spare has room behind it in which something stands.
func spare[T any](things ...T) []T { return things[:len(things)-1] }

func pair() api.Pair { return api.Pair{From: "from", To: "to"} }

func triple() api.Triple { return api.Triple{Subject: "s", Object: "o", Action: "a"} }

func rule() api.Rule {
	return api.Rule{Deny: true, Who: "who", What: "what", Actions: spare("one", "two", "spare"), Cond: api.Below, Level: 0.5}
}

// full is a policy in which each list has something, and each field another value than zero.
func full() api.Policy {
	return api.Policy{
		Actions:  spare("open", "spare"),
		Subjects: spare(api.Subject{Name: "ann", Trust: 0.5}, api.Subject{Name: "spare"}),
		Roles:    spare("clerk", "guard", "spare"),
		Objects:  spare("door", "spare"),
		Groups:   spare("doors", "spare"),
		Members:  spare(pair(), api.Pair{From: "m", To: "n"}, pair()),
		Inherits: spare(pair(), pair()),
		Parts:    spare(api.Pair{From: "p", To: "q"}, pair()),
		Withins:  spare(pair(), pair()),
		Rules:    spare(rule(), api.Rule{Who: "x"}, rule()),
		Excepts:  spare(triple(), triple()),
	}
}

func fullOp() api.Op {
	delta := api.Delta{Kind: api.DeltaTrust, Rule: rule(), At: 7, Name: "name", Trust: 0.25, Pair: pair(), Triple: triple()}
	return api.Op{Kind: api.OpApply, Triple: triple(), Text: "text", Deltas: spare(delta, api.Delta{}, delta)}
}

// wantFull asks that no field of a value is zero, so that a copy that leaves one out is seen.
func wantFull(t *testing.T, v reflect.Value) {
	t.Helper()
	for i := range v.NumField() {
		if v.Field(i).IsZero() {
			t.Errorf("%v has nothing in %s", v.Type(), v.Type().Field(i).Name)
		}
	}
}

// places are where the texts and the lists of a value lie, with the lists' spare room. (A struct lies where its first field does.)
func places(v reflect.Value, seen map[unsafe.Pointer]struct{}) {
	switch v.Kind() {
	case reflect.String:
		if v.Len() > 0 {
			seen[unsafe.Pointer(unsafe.StringData(v.String()))] = struct{}{}
		}
	case reflect.Struct:
		for i := range v.NumField() {
			places(v.Field(i), seen)
		}
	case reflect.Slice:
		all := v.Slice(0, v.Cap())
		for i := range all.Len() {
			seen[all.Index(i).Addr().UnsafePointer()] = struct{}{}
			places(all.Index(i), seen)
		}
	}
}

func wantApart(t *testing.T, given, copied any) {
	t.Helper()
	seen, mine := map[unsafe.Pointer]struct{}{}, map[unsafe.Pointer]struct{}{}
	places(reflect.ValueOf(given), seen)
	places(reflect.ValueOf(copied), mine)
	for place := range mine {
		if _, there := seen[place]; there {
			t.Fatalf("%+v shares memory with %+v", copied, given)
		}
	}
	if len(mine) == 0 {
		t.Errorf("%+v lies nowhere", copied)
	}
}

func TestACopyIsTheSameAndApart(t *testing.T) {
	p, op := full(), fullOp()
	wantFull(t, reflect.ValueOf(p))
	wantFull(t, reflect.ValueOf(p.Rules[0]))
	wantFull(t, reflect.ValueOf(op))
	wantFull(t, reflect.ValueOf(op.Deltas[0]))
	if q := own.Policy(p); !reflect.DeepEqual(q, p) {
		t.Errorf("%+v, want %+v", q, p)
	}
	if q := own.Op(op); !reflect.DeepEqual(q, op) {
		t.Errorf("%+v, want %+v", q, op)
	}
	if q := own.Triple(op.Triple); q != op.Triple {
		t.Errorf("%+v, want %+v", q, op.Triple)
	}
	wantApart(t, p, own.Policy(p))
	wantApart(t, op, own.Op(op))
	wantApart(t, op, own.Triple(op.Triple))
	wantApart(t, own.Policy(p), own.Policy(p))
	wantApart(t, own.Op(op), own.Op(op))
}

// What is copied stays as it was, its spare room too, and what is done with the copy is not seen in it.
func TestWhatIsCopiedStays(t *testing.T) {
	p, op := full(), fullOp()
	q, o := own.Policy(p), own.Op(op)
	q.Actions[0], q.Subjects[0].Trust, q.Members[1].To, q.Rules[0].Actions[1], q.Excepts[0].Action = "x", 1, "x", "x", "x"
	o.Deltas[0].Rule.Actions[0], o.Deltas[1].Kind = "x", 9
	_, _ = append(q.Roles, "x"), append(o.Deltas, api.Delta{Kind: 9})
	if !reflect.DeepEqual(p, full()) || !reflect.DeepEqual(op, fullOp()) {
		t.Errorf("%+v, %+v", p, op)
	}
	if !slices.Equal(p.Roles[:3], []string{"clerk", "guard", "spare"}) || p.Rules[0].Actions[:3][2] != "spare" || op.Deltas[:3][2].Kind != api.DeltaTrust {
		t.Error("the spare room is written over")
	}
}

// A list without elements and none are one (DOC.md, R4).
func TestCopiesOfNothing(t *testing.T) {
	for _, p := range []api.Policy{{}, {Actions: []string{}, Subjects: []api.Subject{}, Members: []api.Pair{}, Rules: []api.Rule{}, Excepts: []api.Triple{}}} {
		if q := own.Policy(p); !reflect.DeepEqual(q, api.Policy{}) {
			t.Errorf("%+v", q)
		}
	}
	for _, op := range []api.Op{{}, {Deltas: []api.Delta{}}} {
		if o := own.Op(op); !reflect.DeepEqual(o, api.Op{}) {
			t.Errorf("%+v", o)
		}
	}
	if q := own.Policy(api.Policy{Rules: []api.Rule{{Actions: []string{}}}}); !reflect.DeepEqual(q, api.Policy{Rules: []api.Rule{{}}}) {
		t.Errorf("%+v", q)
	}
}
