package diff_test

import (
	"slices"
	"strings"
	"testing"

	"gatehouse/api"
	"gatehouse/diff"
	"gatehouse/mean"
	"gatehouse/valid"
)

// The chapter's two policies, and the changes there and back.
const (
	firstText  = "action o, p; subject x, y; object d; allow x on d : *; allow y on d : p;"
	secondText = "action p, q; subject y, x; object d; allow x on d : p, q; allow y on d : q;"
	there      = "-x/d/o -y/d/p +y/d/q +x/d/q"
	back       = "-y/d/q -x/d/q +x/d/o +y/d/p"
)

// house is the policy of the document's text.
const house = `
action open, read, write;
subject ann, bob trust 0.5;
subject "the night watch";
role clerk, guard;
object door1, door2, vault;
group doors, building;
member ann : clerk, guard;
inherit guard : clerk;
part door1 : doors;
within doors : building;
allow clerk on building : open, read above 0.25;
deny guard on vault : *;
except ann on door1 : read;
`

func load(t *testing.T, text string) api.Policy {
	t.Helper()
	p, err := valid.Load(text)
	if err != nil {
		t.Fatal(err)
	}
	return p
}

// triple is one written as "x/d/o"; a name may be empty.
func triple(text string) api.Triple {
	names := strings.Split(text, "/")
	return api.Triple{Subject: names[0], Object: names[1], Action: names[2]}
}

func triples(text string) []api.Triple {
	var l []api.Triple
	for _, word := range strings.Fields(text) {
		l = append(l, triple(word))
	}
	return l
}

// written are changes as "-x/d/o +y/d/q": lost, gained.
func written(l []api.Change) string {
	var words []string
	for _, c := range l {
		sign := "-"
		if c.Gained {
			sign = "+"
		}
		words = append(words, sign+c.Triple.Subject+"/"+c.Triple.Object+"/"+c.Triple.Action)
	}
	return strings.Join(words, " ")
}

// pairs are pairs written as "a>b a>c".
func pairs(text string) []api.Pair {
	var l []api.Pair
	for _, word := range strings.Fields(text) {
		from, to, _ := strings.Cut(word, ">")
		l = append(l, api.Pair{From: from, To: to})
	}
	return l
}

// policy has the subjects, all of the trust 1, the objects and the actions of a text like "x y / d / o p", and a rule for each triple.
func policy(lists, allowed string) api.Policy {
	parts := strings.Split(lists, "/")
	p := api.Policy{Objects: strings.Fields(parts[1]), Actions: strings.Fields(parts[2])}
	for _, name := range strings.Fields(parts[0]) {
		p.Subjects = append(p.Subjects, api.Subject{Name: name, Trust: 1})
	}
	for _, x := range triples(allowed) {
		p.Rules = append(p.Rules, api.Rule{Who: x.Subject, What: x.Object, Actions: []string{x.Action}})
	}
	return p
}

// wantChanges asks all four calls.
func wantChanges(t *testing.T, what string, a, b api.Policy, want string) {
	t.Helper()
	if got := written(slices.Collect(diff.Between(a, b))); got != want {
		t.Errorf("%s: Between goes over %q, want %q", what, got, want)
	}
	if got := written(diff.List(a, b)); got != want {
		t.Errorf("%s: List is %q, want %q", what, got, want)
	}
	if got := diff.Chain(a, b); len(got) != 1 || written(got[0]) != want {
		t.Errorf("%s: Chain is %v, want %q alone", what, got, want)
	}
	if got := diff.Same(a, b); got != (want == "") {
		t.Errorf("%s: Same says %v, the changes are %q", what, got, want)
	}
}

func TestTheExamplesOfTheChapter(t *testing.T) {
	a, b := load(t, firstText), load(t, secondText)
	if got := mean.Relation(a); !slices.Equal(got, triples("x/d/o x/d/p y/d/p")) {
		t.Fatalf("the first one's relation: %v", got)
	}
	if got := mean.Relation(b); !slices.Equal(got, triples("y/d/q x/d/p x/d/q")) {
		t.Fatalf("the second one's relation: %v", got)
	}
	wantChanges(t, "there", a, b, there)
	wantChanges(t, "back", b, a, back)
	wantChanges(t, "the first one and itself", a, a, "")
	wantChanges(t, "the second one and itself", b, b, "")
	wantChanges(t, "two empty policies", api.Policy{}, api.Policy{}, "")
	wantChain(t, "there and back", diff.Chain(a, b, a), there, back)
	wantChain(t, "one policy", diff.Chain(a))
}

func TestAChangeHasItsTripleAndItsSide(t *testing.T) {
	a, b := load(t, firstText), load(t, secondText)
	want := []api.Change{
		{Triple: api.Triple{Subject: "x", Object: "d", Action: "o"}, Gained: false},
		{Triple: api.Triple{Subject: "y", Object: "d", Action: "p"}, Gained: false},
		{Triple: api.Triple{Subject: "y", Object: "d", Action: "q"}, Gained: true},
		{Triple: api.Triple{Subject: "x", Object: "d", Action: "q"}, Gained: true},
	}
	if got := diff.List(a, b); !slices.Equal(got, want) {
		t.Errorf("%v", got)
	}
	if got := slices.Collect(diff.Between(a, b)); !slices.Equal(got, want) {
		t.Errorf("%v", got)
	}
}

// The document's policy, with one thing of it changed.
func TestTheHouseChanged(t *testing.T) {
	p := load(t, house)
	if got := mean.Relation(p); !slices.Equal(got, triples("ann/door1/open")) {
		t.Fatalf("the relation: %v", got)
	}
	for _, c := range []struct {
		what   string
		change func(p *api.Policy)
		want   string
	}{
		{"nothing", func(p *api.Policy) {}, ""},
		{"without the except", func(p *api.Policy) { p.Excepts = nil }, "+ann/door1/read"},
		{"with another except", func(p *api.Policy) { p.Excepts = triples("ann/door1/open") }, "-ann/door1/open +ann/door1/read"},
		{"bob a clerk", func(p *api.Policy) { p.Members = append(p.Members, pairs("bob>clerk")...) }, "+bob/door1/open +bob/door1/read"},
		{"ann a guard alone, who is a clerk", func(p *api.Policy) { p.Members = pairs("ann>guard") }, ""},
		{"ann of no role", func(p *api.Policy) { p.Members = nil }, "-ann/door1/open"},
		{"ann of less trust", func(p *api.Policy) { p.Subjects[0].Trust = 0.2 }, "-ann/door1/open"},
		{"ann of as much trust as it takes", func(p *api.Policy) { p.Subjects[0].Trust = 0.25 }, ""},
		{"the vault in the building", func(p *api.Policy) { p.Parts = append(p.Parts, pairs("vault>building")...) }, ""},
		{"the same, and no rule that denies", func(p *api.Policy) {
			p.Parts, p.Rules = append(p.Parts, pairs("vault>building")...), p.Rules[:1]
		}, "+ann/vault/open +ann/vault/read"},
		{"door2 in place of door1", func(p *api.Policy) { p.Parts = pairs("door2>doors") }, "-ann/door1/open +ann/door2/open +ann/door2/read"},
		{"another name for ann", func(p *api.Policy) { p.Subjects[0].Name, p.Members = "eve", pairs("eve>clerk") }, "-ann/door1/open +eve/door1/open +eve/door1/read"},
		{"without actions", func(p *api.Policy) { p.Actions = nil }, "-ann/door1/open"},
	} {
		q := load(t, house)
		c.change(&q)
		wantChanges(t, c.what, p, q, c.want)
	}
}
