package graph_test

import (
	"reflect"
	"slices"
	"strings"
	"testing"
	"unsafe"

	"gatehouse/api"
	"gatehouse/graph"
)

// spare is what stands in the room behind a list.
const spare = 3

// spared has room behind it that is filled, so that a write there would be seen.
func spared[E any](l []E, filling E) []E {
	return slices.Concat(l, slices.Repeat([]E{filling}, spare))[:len(l)]
}

func sparedPolicy(p api.Policy) api.Policy {
	line, text := api.Pair{From: "spare", To: "room"}, "spare"
	p.Actions, p.Roles, p.Objects, p.Groups = spared(p.Actions, text), spared(p.Roles, text), spared(p.Objects, text), spared(p.Groups, text)
	p.Members, p.Inherits, p.Parts, p.Withins = spared(p.Members, line), spared(p.Inherits, line), spared(p.Parts, line), spared(p.Withins, line)
	p.Subjects, p.Excepts, p.Rules = spared(p.Subjects, api.Subject{Name: text}), spared(p.Excepts, triple("a/b/c")), spared(p.Rules, api.Rule{Who: text})
	for i := range p.Rules {
		p.Rules[i].Actions = spared(p.Rules[i].Actions, text)
	}
	return p
}

func sparedGraph(g api.Graph) api.Graph {
	g.Actions, g.Subjects, g.Objects = spared(g.Actions, "spare"), spared(g.Subjects, "spare"), spared(g.Objects, "spare")
	g.Of, g.On, g.Masks = spared(g.Of, 77), spared(g.On, 77), spared(g.Masks, nil)
	for x := range g.Masks {
		g.Masks[x] = spared(g.Masks[x], 77)
	}
	return g
}

// whole is a copy of a list with what stands in its spare room.
func whole[E any](l []E) []E { return slices.Clone(l[:len(l)+spare]) }

func wholePolicy(p api.Policy) api.Policy {
	p.Rules = whole(p.Rules)
	for i := range len(p.Rules) - spare {
		p.Rules[i].Actions = whole(p.Rules[i].Actions)
	}
	p.Actions, p.Roles, p.Objects, p.Groups = whole(p.Actions), whole(p.Roles), whole(p.Objects), whole(p.Groups)
	p.Members, p.Inherits, p.Parts, p.Withins = whole(p.Members), whole(p.Inherits), whole(p.Parts), whole(p.Withins)
	p.Subjects, p.Excepts = whole(p.Subjects), whole(p.Excepts)
	return p
}

func wholeGraph(g api.Graph) api.Graph {
	g.Masks = whole(g.Masks)
	for x := range len(g.Masks) - spare {
		g.Masks[x] = whole(g.Masks[x])
	}
	g.Actions, g.Subjects, g.Objects, g.Of, g.On = whole(g.Actions), whole(g.Subjects), whole(g.Objects), whole(g.Of), whole(g.On)
	return g
}

// somePolicies have one class and many, one side and both, names that stand twice, and one too many.
func somePolicies(t *testing.T) []api.Policy {
	return []api.Policy{
		load(t, example), {}, many(3, 5, 4), many(16, 64, 64), many(2, 3, 0), many(2, 0, 3), many(17, 2, 2),
		allowing("x y x", "a b a", "o o p", "a/o/x b/p/y"),
		allowing("n", "n", "n", "n/n/n"),
	}
}

func TestWhatIsHandedInStaysAsItIs(t *testing.T) {
	for _, p := range somePolicies(t) {
		p = sparedPolicy(p)
		before := wholePolicy(p)
		g := graph.Compile(p)
		graph.Compile(p)
		if !reflect.DeepEqual(wholePolicy(p), before) {
			t.Errorf("the policy has become %+v, from %+v", wholePolicy(p), before)
		}
		broken := made("x", "a a b", "o p", "3 0 1 1", "-1", "1", "", "1 1 1")
		for _, g := range []api.Graph{sparedGraph(g), sparedGraph(broken)} {
			before := wholeGraph(g)
			for _, x := range triples("ann/door1/open s00/o00/a00 a/o/x b/p/x eve/o/x //") {
				graph.Valid(g)
				graph.Decide(g, x)
			}
			if !reflect.DeepEqual(wholeGraph(g), before) {
				t.Errorf("the graph has become %+v, from %+v", wholeGraph(g), before)
			}
		}
	}
}

// places are where the texts and the lists of a value lie, with the lists' spare room.
func places(v reflect.Value, seen map[unsafe.Pointer]int) {
	switch v.Kind() {
	case reflect.String:
		if v.Len() > 0 {
			seen[unsafe.Pointer(unsafe.StringData(v.String()))]++
		}
	case reflect.Struct:
		for i := range v.NumField() {
			places(v.Field(i), seen)
		}
	case reflect.Slice:
		all := v.Slice(0, v.Cap())
		for i := range all.Len() {
			seen[all.Index(i).Addr().UnsafePointer()]++
			places(all.Index(i), seen)
		}
	}
}

// ownTexts makes each text of a value a text of its own.
func ownTexts(v reflect.Value) {
	switch v.Kind() {
	case reflect.String:
		v.SetString(strings.Clone(v.String()))
	case reflect.Struct:
		for i := range v.NumField() {
			ownTexts(v.Field(i))
		}
	case reflect.Slice:
		for i := range v.Len() {
			ownTexts(v.Index(i))
		}
	}
}

// An answer lies nowhere where something lay before, and no two parts of it lie in one place: its lists, their spare room, its rows and its texts.
func TestWhatIsAnsweredSharesNothing(t *testing.T) {
	var kept []any // so that no place is used again
	noted := map[unsafe.Pointer]int{}
	for _, p := range somePolicies(t) {
		p = sparedPolicy(p)
		ownTexts(reflect.ValueOf(&p).Elem())
		places(reflect.ValueOf(p), noted)
		for range 3 {
			g := graph.Compile(p)
			kept = append(kept, g, p)
			mine := map[unsafe.Pointer]int{}
			places(reflect.ValueOf(g), mine)
			for at, n := range mine {
				if noted[at] > 0 || n > 1 {
					t.Fatalf("%+v shares memory", g)
				}
			}
			for at, n := range mine {
				noted[at] += n
			}
		}
	}
	if len(noted) < 10000 || len(kept) == 0 {
		t.Errorf("%d places: too few to tell", len(noted))
	}
}

// What is done with one answer is not seen in another, nor in what is asked again; what is done with a policy is not seen in its graph.
func TestAnswersAreApart(t *testing.T) {
	p := many(4, 6, 6)
	want := slowCompile(p)
	a, b := graph.Compile(p), graph.Compile(p)
	clear(a.Actions[:cap(a.Actions)])
	clear(a.Subjects[:cap(a.Subjects)])
	clear(a.Objects[:cap(a.Objects)])
	clear(a.Of[:cap(a.Of)])
	clear(a.On[:cap(a.On)])
	for x := range a.Masks {
		clear(a.Masks[x][:cap(a.Masks[x])])
	}
	clear(a.Masks[:cap(a.Masks)])
	if !sameGraph(b, want) {
		t.Errorf("%+v", b)
	}
	wantGraph(t, "asked again", p, want)
	for x := range b.Masks {
		_ = append(b.Masks[x], 9, 9, 9)
	}
	_, _ = append(b.Of, 9), append(b.Actions, "z")
	if !sameGraph(b, want) {
		t.Errorf("%+v", b)
	}
	clear(p.Actions)
	clear(p.Subjects)
	clear(p.Objects)
	clear(p.Rules)
	if !sameGraph(b, want) {
		t.Errorf("%+v", b)
	}
}
