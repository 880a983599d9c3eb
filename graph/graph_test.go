package graph_test

import (
	"slices"
	"strconv"
	"strings"
	"testing"

	"gatehouse/api"
	"gatehouse/graph"
	"gatehouse/valid"
)

// example is the policy of the document's text.
const example = `
action open, read, write;
subject ann, bob trust 0.5;
subject "the night watch";
role clerk, guard;
object door1, door2, vault;
group doors, building;
member ann : clerk, guard;
inherit guard : clerk;
part door1 : doors;
within doors : building;
allow clerk on building : open, read above 0.25;
deny guard on vault : *;
except ann on door1 : read;
`

func load(t *testing.T, text string) api.Policy {
	t.Helper()
	p, err := valid.Load(text)
	if err != nil {
		t.Fatal(err)
	}
	return p
}

// triple is one written as "ann/door1/open"; a name may be empty.
func triple(text string) api.Triple {
	names := strings.Split(text, "/")
	return api.Triple{Subject: names[0], Object: names[1], Action: names[2]}
}

func triples(text string) []api.Triple {
	var l []api.Triple
	for _, word := range strings.Fields(text) {
		l = append(l, triple(word))
	}
	return l
}

// subjects have the trust 1.
func subjects(names ...string) []api.Subject {
	var l []api.Subject
	for _, name := range names {
		l = append(l, api.Subject{Name: name, Trust: 1})
	}
	return l
}

// rule allows, whatever the trust.
func rule(who, what, actions string) api.Rule {
	return api.Rule{Who: who, What: what, Actions: strings.Fields(actions)}
}

// allowing is a policy that allows these triples alone, by a rule for each.
func allowing(actions, subjectNames, objects string, list string) api.Policy {
	p := api.Policy{Actions: strings.Fields(actions), Subjects: subjects(strings.Fields(subjectNames)...), Objects: strings.Fields(objects)}
	for _, x := range triples(list) {
		p.Rules = append(p.Rules, rule(x.Subject, x.Object, x.Action))
	}
	return p
}

func numbers(text string) []int {
	var l []int
	for _, word := range strings.Fields(text) {
		n, err := strconv.Atoi(word)
		if err != nil {
			panic(err)
		}
		l = append(l, n)
	}
	return l
}

// rows are masks, each row written as "1 0"; so an empty text is a row without columns.
func rows(texts ...string) [][]uint16 {
	var l [][]uint16
	for _, text := range texts {
		var row []uint16
		for _, n := range numbers(text) {
			row = append(row, uint16(n))
		}
		l = append(l, row)
	}
	return l
}

func made(actions, subjectNames, objects, of, on string, masks ...string) api.Graph {
	return api.Graph{
		Actions: strings.Fields(actions), Subjects: strings.Fields(subjectNames), Objects: strings.Fields(objects),
		Of: numbers(of), On: numbers(on), Masks: rows(masks...),
	}
}

// A nil list and one without elements are the same.
func sameGraph(a, b api.Graph) bool {
	return slices.Equal(a.Actions, b.Actions) && slices.Equal(a.Subjects, b.Subjects) && slices.Equal(a.Objects, b.Objects) &&
		slices.Equal(a.Of, b.Of) && slices.Equal(a.On, b.On) && slices.EqualFunc(a.Masks, b.Masks, slices.Equal)
}

func wantGraph(t *testing.T, what string, p api.Policy, want api.Graph) {
	t.Helper()
	if got := graph.Compile(p); !sameGraph(got, want) {
		t.Errorf("%s: %+v, want %+v", what, got, want)
	}
}

func wantValid(t *testing.T, what string, g api.Graph, want bool) {
	t.Helper()
	if got := graph.Valid(g); got != want {
		t.Errorf("%s: Valid of %+v: %v", what, g, got)
	}
}

func wantDecide(t *testing.T, what string, g api.Graph, text string, want bool) {
	t.Helper()
	if got := graph.Decide(g, triple(text)); got != want {
		t.Errorf("%s: Decide of %+v and %s: %v", what, g, text, got)
	}
}

func TestTheExamplesOfTheChapter(t *testing.T) {
	p := load(t, example)
	names := api.Graph{Actions: []string{"open", "read", "write"}, Subjects: []string{"ann", "bob", "the night watch"}, Objects: []string{"door1", "door2", "vault"}}
	first := names
	first.Of, first.On, first.Masks = numbers("1 2 2"), numbers("1 2 2"), rows("1 0", "0 0")
	wantGraph(t, "the document's policy", p, first)
	wantValid(t, "the document's policy", first, true)
	for text, want := range map[string]bool{"ann/door1/open": true, "ann/door1/read": false, "bob/door1/open": false, "eve/door1/open": false} {
		wantDecide(t, "the document's policy", graph.Compile(p), text, want)
	}

	p.Rules = p.Rules[1:]
	without := names
	without.Of, without.On, without.Masks = numbers("1 1 1"), numbers("1 1 1"), rows("0")
	wantGraph(t, "without its allow rule", p, without)
	wantValid(t, "without its allow rule", without, true)

	for _, c := range []struct {
		what string
		p    api.Policy
		want api.Graph
	}{
		{"without objects", allowing("", "a b", "", ""), made("", "a b", "", "1 1", "", "")},
		{"without subjects", allowing("", "", "a b", ""), made("", "", "a b", "", "1 1")},
		{"17 actions", allowing("a b c d e f g h i j k l m n o p q", "s", "o", "s/o/a"), api.Graph{}},
	} {
		wantGraph(t, c.what, c.p, c.want)
		wantValid(t, c.what, c.want, true)
	}

	wantValid(t, "one row is wanted", made("", "a b", "", "1 1", ""), false)
	wantValid(t, "equal rows", made("x", "a b", "o", "1 2", "1", "1", "1"), false)
	wantValid(t, "unlike rows", made("x", "a b", "o", "1 2", "1", "1", "0"), true)
	wantValid(t, "bit 1 stands for nothing", made("x", "a b", "o", "1 2", "1", "1", "2"), false)
	wantValid(t, "Of 2, 1", made("x", "a b", "o", "2 1", "1", "1", "0"), false)
	wantValid(t, "Subjects a, a", made("x", "a a", "o", "1 2", "1", "1", "0"), false)
	wantDecide(t, "Of 0", made("x", "a", "o", "0", "1", "1"), "a/o/x", false)
}

// The document's second example of the whole.
func TestTheSecondExampleOfTheWhole(t *testing.T) {
	g := graph.Compile(load(t, example))
	set := 0
	for _, row := range g.Masks {
		for _, mask := range row {
			if mask != 0 {
				set++
			}
		}
	}
	if slices.Max(g.Of) != 2 || slices.Max(g.On) != 2 || len(g.Masks) != 2 || len(g.Masks[0])+len(g.Masks[1]) != 4 || set != 1 {
		t.Errorf("%+v", g)
	}
}
