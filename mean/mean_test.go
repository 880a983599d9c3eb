package mean_test

import (
	"slices"
	"strings"
	"testing"

	"gatehouse/api"
	"gatehouse/mean"
	"gatehouse/valid"
)

// example is the policy of the document's text.
const example = `
action open, read, write;
subject ann, bob trust 0.5;
subject "the night watch";
role clerk, guard;
object door1, door2, vault;
group doors, building;
member ann : clerk, guard;
inherit guard : clerk;
part door1 : doors;
within doors : building;
allow clerk on building : open, read above 0.25;
deny guard on vault : *;
except ann on door1 : read;
`

func load(t *testing.T, text string) api.Policy {
	t.Helper()
	p, err := valid.Load(text)
	if err != nil {
		t.Fatal(err)
	}
	return p
}

// triple is one written as "ann/door1/open"; a name may be empty.
func triple(text string) api.Triple {
	names := strings.Split(text, "/")
	return api.Triple{Subject: names[0], Object: names[1], Action: names[2]}
}

func triples(text string) []api.Triple {
	var l []api.Triple
	for _, word := range strings.Fields(text) {
		l = append(l, triple(word))
	}
	return l
}

// written are triples as they stand in a table.
func written(l []api.Triple) string {
	var words []string
	for _, t := range l {
		words = append(words, t.Subject+"/"+t.Object+"/"+t.Action)
	}
	return strings.Join(words, " ")
}

// pairs are pairs written as "a>b a>c".
func pairs(text string) []api.Pair {
	var l []api.Pair
	for _, word := range strings.Fields(text) {
		from, to, _ := strings.Cut(word, ">")
		l = append(l, api.Pair{From: from, To: to})
	}
	return l
}

// subjects have the trust 1.
func subjects(text string) []api.Subject {
	var l []api.Subject
	for _, name := range strings.Fields(text) {
		l = append(l, api.Subject{Name: name, Trust: 1})
	}
	return l
}

// rule allows, whatever the trust.
func rule(who, what, actions string) api.Rule {
	return api.Rule{Who: who, What: what, Actions: strings.Fields(actions)}
}

func denying(r api.Rule) api.Rule {
	r.Deny = true
	return r
}

func wantRelation(t *testing.T, what string, p api.Policy, want string) {
	t.Helper()
	if got := written(mean.Relation(p)); got != want {
		t.Errorf("%s: the relation is %q, want %q", what, got, want)
	}
}

// wantAllowed: of all triples of these names just the wanted ones are allowed.
func wantAllowed(t *testing.T, what string, p api.Policy, want string) {
	t.Helper()
	for _, x := range everyTriple(p) {
		if got := mean.Allows(p, x); got != slices.Contains(triples(want), x) {
			t.Errorf("%s: Allows of %v: %v", what, x, got)
		}
	}
}

// everyName has all names that stand anywhere in a policy, the empty one and one that stands nowhere.
func everyName(p api.Policy) []string {
	l := slices.Concat([]string{"", "nobody"}, p.Actions, p.Roles, p.Objects, p.Groups)
	for _, s := range p.Subjects {
		l = append(l, s.Name)
	}
	for _, q := range slices.Concat(p.Members, p.Inherits, p.Parts, p.Withins) {
		l = append(l, q.From, q.To)
	}
	for _, r := range p.Rules {
		l = append(append(l, r.Who, r.What), r.Actions...)
	}
	for _, e := range p.Excepts {
		l = append(l, e.Subject, e.Object, e.Action)
	}
	slices.Sort(l)
	return slices.Compact(l)
}

// everyTriple has each three of all names, so that most have a name that is not there, or is of another kind.
func everyTriple(p api.Policy) []api.Triple {
	names := everyName(p)
	var l []api.Triple
	for _, s := range names {
		for _, o := range names {
			for _, a := range names {
				l = append(l, api.Triple{Subject: s, Object: o, Action: a})
			}
		}
	}
	return l
}

func TestTheExamplesOfTheChapter(t *testing.T) {
	p := load(t, example)
	for text, want := range map[string]bool{
		"ann/door1/open": true, "ann/door1/read": false, "ann/door1/write": false,
		"bob/door1/open": false, "ann/door2/open": false, "ann/vault/open": false, "eve/door1/open": false, "clerk/door1/open": false,
	} {
		if got := mean.Allows(p, triple(text)); got != want {
			t.Errorf("Allows of %s: %v", text, got)
		}
	}
	for object, want := range map[string]uint16{"door1": 1, "vault": 0, "building": 0} {
		if got := mean.Mask(p, "ann", object); got != want {
			t.Errorf("Mask of ann and %s: %d, want %d", object, got, want)
		}
	}
	wantRelation(t, "the document's policy", p, "ann/door1/open")
	wantAllowed(t, "the document's policy", p, "ann/door1/open")
	wantRelation(t, "bob below his trust", load(t, example+"allow bob on door1 : * below 0.5;"), "ann/door1/open")
	wantRelation(t, "the night watch, the last", load(t, example+`allow "the night watch" on vault : write above 1;`), "ann/door1/open the night watch/vault/write")
}

func TestTheReasonsOfTheExample(t *testing.T) {
	p := load(t, example)
	for text, want := range map[string][2]bool{
		"ann/door1/open": {true, false}, "ann/door1/read": {true, false}, "ann/door1/write": {false, false},
		"ann/vault/open": {false, true}, "ann/vault/write": {false, true}, "ann/door2/open": {false, false},
		"bob/door1/open": {false, false}, "bob/vault/open": {false, false}, "the night watch/vault/read": {false, false},
		"guard/vault/open": {false, false}, "ann/building/open": {false, false},
	} {
		if got := [2]bool{mean.Matches(p, p.Rules[0], triple(text)), mean.Matches(p, p.Rules[1], triple(text))}; got != want {
			t.Errorf("the rules match %s: %v, want %v", text, got, want)
		}
	}
}
