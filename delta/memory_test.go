package delta_test

import (
	"reflect"
	"slices"
	"strings"
	"testing"
	"unsafe"

	"gatehouse/api"
	"gatehouse/delta"
)

// spare is what stands in the room behind a list.
const spare = 3

// spared has room behind it that is filled, so that a write there would be seen.
func spared[E any](l []E, filling E) []E {
	return slices.Concat(l, slices.Repeat([]E{filling}, spare))[:len(l)]
}

func sparedPolicy(p api.Policy) api.Policy {
	line, text := pair("spare/room"), "spare"
	p.Actions, p.Roles, p.Objects, p.Groups = spared(p.Actions, text), spared(p.Roles, text), spared(p.Objects, text), spared(p.Groups, text)
	p.Members, p.Inherits, p.Parts, p.Withins = spared(p.Members, line), spared(p.Inherits, line), spared(p.Parts, line), spared(p.Withins, line)
	p.Subjects, p.Excepts, p.Rules = spared(p.Subjects, api.Subject{Name: text}), spared(p.Excepts, triple("a/b/c")), spared(p.Rules, api.Rule{Who: text})
	for i := range p.Rules {
		p.Rules[i].Actions = spared(p.Rules[i].Actions, text)
	}
	return p
}

// whole is a copy of a list with what stands in its spare room.
func whole[E any](l []E) []E { return slices.Clone(l[:len(l)+spare]) }

func wholePolicy(p api.Policy) api.Policy {
	p.Rules = whole(p.Rules)
	for i := range len(p.Rules) - spare {
		p.Rules[i].Actions = whole(p.Rules[i].Actions)
	}
	p.Actions, p.Roles, p.Objects, p.Groups = whole(p.Actions), whole(p.Roles), whole(p.Objects), whole(p.Groups)
	p.Members, p.Inherits, p.Parts, p.Withins = whole(p.Members), whole(p.Inherits), whole(p.Parts), whole(p.Withins)
	p.Subjects, p.Excepts = whole(p.Subjects), whole(p.Excepts)
	return p
}

func allDeltas() []api.Delta {
	var l []api.Delta
	for _, g := range goods() {
		l = append(l, g.d)
	}
	for _, b := range bads() {
		if b.d.Trust == b.d.Trust && b.d.Rule.Level == b.d.Rule.Level {
			l = append(l, b.d)
		}
	}
	return append(l, api.Delta{}, api.Delta{Kind: 18})
}

func TestWhatIsHandedInStaysAsItIs(t *testing.T) {
	p := sparedPolicy(load(t, house))
	before := wholePolicy(p)
	list := spared(allDeltas(), api.Delta{Kind: 99})
	for i := range list {
		list[i].Rule.Actions = spared(list[i].Rule.Actions, "spare")
	}
	given := whole(list)
	for i, d := range list {
		delta.One(p, d)
		delta.Apply(p, list[i:])
		delta.Apply(p, list[i:i+1])
		delta.Apply(p, nil)
		delta.Revoke(p, triple("ann/door/read"))
		delta.Revoke(p, triple("ann/door/shut"))
		delta.Revoke(p, d.Triple)
	}
	if !reflect.DeepEqual(wholePolicy(p), before) {
		t.Errorf("the policy has become %+v, from %+v", wholePolicy(p), before)
	}
	if !reflect.DeepEqual(whole(list), given) {
		t.Errorf("the list has become %+v, from %+v", whole(list), given)
	}
	for _, d := range list {
		if room := d.Rule.Actions[len(d.Rule.Actions):][:spare]; !slices.Equal(room, []string{"spare", "spare", "spare"}) {
			t.Errorf("%v stands behind the rule's actions", room)
		}
	}
}

// places are where the texts and the lists of a value lie, with the lists' spare room.
func places(v reflect.Value, seen map[unsafe.Pointer]int) {
	switch v.Kind() {
	case reflect.String:
		if v.Len() > 0 {
			seen[unsafe.Pointer(unsafe.StringData(v.String()))]++
		}
	case reflect.Struct:
		for i := range v.NumField() {
			places(v.Field(i), seen)
		}
	case reflect.Slice:
		all := v.Slice(0, v.Cap())
		for i := range all.Len() {
			seen[all.Index(i).Addr().UnsafePointer()]++
			places(all.Index(i), seen)
		}
	}
}

// ownTexts makes each text of a value a text of its own.
func ownTexts(v reflect.Value) {
	switch v.Kind() {
	case reflect.String:
		v.SetString(strings.Clone(v.String()))
	case reflect.Struct:
		for i := range v.NumField() {
			ownTexts(v.Field(i))
		}
	case reflect.Slice:
		for i := range v.Len() {
			ownTexts(v.Index(i))
		}
	}
}

// wantApart: an answer lies nowhere where something lay before, and no two lists of it lie in one place. A struct lies where its first field does, so that places are counted by the value's own.
func wantApart(t *testing.T, what string, p api.Policy, noted map[unsafe.Pointer]int) {
	t.Helper()
	mine := map[unsafe.Pointer]int{}
	places(reflect.ValueOf(p), mine)
	for at, n := range mine {
		if noted[at] > 0 {
			t.Errorf("%s: the answer shares memory", what)
			return
		}
		if n > 1 {
			t.Errorf("%s: two parts of the answer share memory", what)
			return
		}
	}
	for at, n := range mine {
		noted[at] += n
	}
}

func TestWhatIsAnsweredSharesNothing(t *testing.T) {
	p := sparedPolicy(load(t, house))
	list := []api.Delta{}
	for _, g := range goods() {
		list = append(list, g.d)
	}
	ownTexts(reflect.ValueOf(&p).Elem())
	ownTexts(reflect.ValueOf(&list).Elem())
	revoked := []api.Triple{triple("ann/door/read"), triple("ann/door/shut"), triple("eve/safe/open")}
	ownTexts(reflect.ValueOf(&revoked).Elem())
	noted := map[unsafe.Pointer]int{}
	places(reflect.ValueOf(p), noted)
	places(reflect.ValueOf(list), noted)
	places(reflect.ValueOf(revoked), noted)
	kept := []api.Policy{}
	keep := func(what string, q api.Policy, e api.Errno) {
		if e != api.OK {
			t.Errorf("%s: %d", what, e)
		}
		wantApart(t, what, q, noted)
		kept = append(kept, q)
	}
	for range 2 {
		for i, d := range list {
			q, e := delta.One(p, d)
			keep("One", q, e)
			q, _, e = delta.Apply(p, list[i:i+1])
			keep("Apply", q, e)
		}
		q, _, e := delta.Apply(p, nil)
		keep("Apply of nothing", q, e)
		q, _, e = delta.Apply(p, []api.Delta{list[0], list[6], list[15]})
		keep("Apply of three", q, e)
		for _, x := range revoked {
			q, e := delta.Revoke(p, x)
			keep("Revoke", q, e)
		}
	}
	if len(kept) != 2*(2*len(list)+2+3) {
		t.Errorf("%d answers", len(kept))
	}
}

// What is done with one answer is not seen in another, nor in the policy that was handed in.
func TestAnswersAreApart(t *testing.T) {
	p := load(t, house)
	a, _, _ := delta.Apply(p, nil)
	b, _ := delta.One(p, named(api.DeltaRole, "cook"))
	c, _ := delta.Revoke(p, triple("ann/door/read"))
	b.Roles[0], b.Rules[0].Actions[0], b.Subjects[0].Name, b.Excepts[0].Action = "x", "x", "x", "x"
	c.Roles[1], c.Rules[0].Actions[1], c.Subjects[1].Name, c.Members[0].To = "y", "y", "y", "y"
	_ = append(a.Roles, "z")
	if !same(p, load(t, house)) || !same(a, p) {
		t.Errorf("%+v, %+v", p, a)
	}
}
