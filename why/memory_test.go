package why_test

import (
	"reflect"
	"slices"
	"strings"
	"testing"
	"unsafe"

	"gatehouse/api"
	"gatehouse/why"
)

// spare is what stands in the room behind a list.
const spare = 3

// spared has room behind it that is filled, so that a write there would be seen.
func spared[E any](l []E, filling E) []E {
	return slices.Concat(l, slices.Repeat([]E{filling}, spare))[:len(l)]
}

func sparedPolicy(p api.Policy) api.Policy {
	line, text := api.Pair{From: "spare", To: "room"}, "spare"
	p.Actions, p.Roles, p.Objects, p.Groups = spared(p.Actions, text), spared(p.Roles, text), spared(p.Objects, text), spared(p.Groups, text)
	p.Members, p.Inherits, p.Parts, p.Withins = spared(p.Members, line), spared(p.Inherits, line), spared(p.Parts, line), spared(p.Withins, line)
	p.Subjects, p.Excepts, p.Rules = spared(p.Subjects, api.Subject{Name: text}), spared(p.Excepts, triple("a/b/c")), spared(p.Rules, api.Rule{Who: text})
	for i := range p.Rules {
		p.Rules[i].Actions = spared(p.Rules[i].Actions, text)
	}
	return p
}

// whole is a copy of a list with what stands in its spare room.
func whole[E any](l []E) []E { return slices.Clone(l[:len(l)+spare]) }

func wholePolicy(p api.Policy) api.Policy {
	p.Rules = whole(p.Rules)
	for i := range len(p.Rules) - spare {
		p.Rules[i].Actions = whole(p.Rules[i].Actions)
	}
	p.Actions, p.Roles, p.Objects, p.Groups = whole(p.Actions), whole(p.Roles), whole(p.Objects), whole(p.Groups)
	p.Members, p.Inherits, p.Parts, p.Withins = whole(p.Members), whole(p.Inherits), whole(p.Parts), whole(p.Withins)
	p.Subjects, p.Excepts = whole(p.Subjects), whole(p.Excepts)
	return p
}

// asked are triples of ringed, one for each verdict and each way of not being there.
func asked() []api.Triple {
	return triples("ann/door/open ann/door/read ann/door/write cat/lamp/read bob/safe/open ann/safe/read ann/hall/open dan/gate/shut //")
}

// Each list is handed in with filled room behind it, the reason's ways too.
func TestWhatIsHandedInStaysAsItIs(t *testing.T) {
	for _, p := range []api.Policy{ringed(), load(t, example), {}} {
		p = sparedPolicy(p)
		before := wholePolicy(p)
		for _, x := range slices.Concat(asked(), triples("ann/vault/open ann/door1/open ann/door1/read")) {
			r := why.Explain(p, x)
			r.Who, r.What = spared(r.Who, "spare"), spared(r.What, "spare")
			who, what := whole(r.Who), whole(r.What)
			for range 2 {
				why.Explain(p, x)
				why.Holds(p, x, r)
				why.Tell(p, x, r)
				why.Who(p, x.Object, x.Action)
				why.What(p, x.Subject, x.Action)
			}
			if !slices.Equal(whole(r.Who), who) || !slices.Equal(whole(r.What), what) {
				t.Errorf("the ways have become %q and %q", whole(r.Who), whole(r.What))
			}
		}
		if !reflect.DeepEqual(wholePolicy(p), before) {
			t.Errorf("the policy has become %+v, from %+v", wholePolicy(p), before)
		}
	}
}

// places are where the texts and the lists of a value lie, with the lists' spare room.
func places(v reflect.Value, seen map[unsafe.Pointer]int) {
	switch v.Kind() {
	case reflect.String:
		if v.Len() > 0 {
			seen[unsafe.Pointer(unsafe.StringData(v.String()))]++
		}
	case reflect.Struct:
		for i := range v.NumField() {
			places(v.Field(i), seen)
		}
	case reflect.Slice:
		all := v.Slice(0, v.Cap())
		for i := range all.Len() {
			seen[all.Index(i).Addr().UnsafePointer()]++
			places(all.Index(i), seen)
		}
	}
}

// ownTexts makes each text of a value a text of its own.
func ownTexts(v reflect.Value) {
	switch v.Kind() {
	case reflect.String:
		v.SetString(strings.Clone(v.String()))
	case reflect.Struct:
		for i := range v.NumField() {
			ownTexts(v.Field(i))
		}
	case reflect.Slice:
		for i := range v.Len() {
			ownTexts(v.Index(i))
		}
	}
}

// wantApart: an answer lies nowhere where something lay before, and no two parts of it lie in one place.
func wantApart(t *testing.T, what string, answer any, noted map[unsafe.Pointer]int) {
	t.Helper()
	mine := map[unsafe.Pointer]int{}
	places(reflect.ValueOf(answer), mine)
	for at, n := range mine {
		if noted[at] > 0 || n > 1 {
			t.Errorf("%s: the answer %q shares memory", what, answer)
			return
		}
	}
	for at, n := range mine {
		noted[at] += n
	}
}

func TestWhatIsAnsweredSharesNothing(t *testing.T) {
	p, list := ringed(), asked()
	p.Members = append(p.Members, pairs("guard>ann")...)
	p.Rules = append(p.Rules, denying(rule("guest", "yard", "read")))
	p = sparedPolicy(p)
	ownTexts(reflect.ValueOf(&p).Elem())
	ownTexts(reflect.ValueOf(&list).Elem())
	noted := map[unsafe.Pointer]int{}
	places(reflect.ValueOf(p), noted)
	places(reflect.ValueOf(list), noted)
	var kept []any
	keep := func(what string, answer any) {
		wantApart(t, what, answer, noted)
		kept = append(kept, answer)
	}
	verdicts := map[int8]bool{}
	for range 3 {
		for _, x := range list {
			r := why.Explain(p, x)
			verdicts[r.Verdict] = true
			keep("Explain", r)
			keep("Tell", why.Tell(p, x, r))
			keep("Who", why.Who(p, x.Object, x.Action))
			keep("What", why.What(p, x.Subject, x.Action))
		}
		round := reason(api.WhyAllowed, 4, "ann > guard > ann", "door")
		ownTexts(reflect.ValueOf(&round).Elem())
		places(reflect.ValueOf(round), noted)
		lines := why.Tell(p, list[0], round)
		if len(lines) != 3 {
			t.Errorf("%q", lines)
		}
		keep("Tell of a reason of one's own", lines)
	}
	if len(verdicts) != 5 || len(kept) != 3*(4*len(list)+1) {
		t.Errorf("%d verdicts, %d answers", len(verdicts), len(kept))
	}
}

// What is done with one answer is not seen in another, nor in what is asked again.
func TestAnswersAreApart(t *testing.T) {
	p := load(t, example)
	x := triple("ann/door1/open")
	a, b := why.Explain(p, x), why.Explain(p, x)
	clear(a.Who[:cap(a.Who)])
	clear(a.What[:cap(a.What)])
	want := reason(api.WhyAllowed, 1, "ann > clerk", "door1 > doors > building")
	if !sameReason(b, want) {
		t.Errorf("%+v", b)
	}
	wantReason(t, "asked again", p, x, want)
	_ = append(b.Who, "x")
	if !slices.Equal(b.What, want.What) {
		t.Errorf("%+v", b)
	}
	who := why.Who(p, "door1", "open")
	who[0] = "x"
	lines := why.Tell(p, x, want)
	lines[0] = "x"
	wantNames(t, "asked again", why.Who(p, "door1", "open"), "ann")
	wantLines(t, p, x, want, "yes: allowed by rule 1", "who: ann > clerk", "what: door1 > doors > building")
}
