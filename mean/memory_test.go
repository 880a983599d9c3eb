package mean_test

import (
	"reflect"
	"slices"
	"strings"
	"testing"
	"unsafe"

	"gatehouse/api"
	"gatehouse/mean"
)

// spare is what stands in the room behind a list.
const spare = 3

// spared has room behind it that is filled, so that a write there would be seen.
func spared[E any](l []E, filling E) []E {
	l = slices.Clone(l)
	return slices.Concat(l, slices.Repeat([]E{filling}, spare))[:len(l)]
}

func sparedPolicy(p api.Policy) api.Policy {
	pair, text := api.Pair{From: "spare", To: "room"}, "spare"
	p.Actions, p.Roles, p.Objects, p.Groups = spared(p.Actions, text), spared(p.Roles, text), spared(p.Objects, text), spared(p.Groups, text)
	p.Members, p.Inherits, p.Parts, p.Withins = spared(p.Members, pair), spared(p.Inherits, pair), spared(p.Parts, pair), spared(p.Withins, pair)
	p.Subjects = spared(p.Subjects, api.Subject{Name: text})
	p.Excepts = spared(p.Excepts, api.Triple{Subject: text})
	p.Rules = spared(p.Rules, api.Rule{Who: text})
	for i := range p.Rules {
		p.Rules[i].Actions = spared(p.Rules[i].Actions, text)
	}
	return p
}

// whole is a copy of a list with what stands in its spare room.
func whole[E any](l []E) []E { return slices.Clone(l[:len(l)+spare]) }

func wholePolicy(p api.Policy) api.Policy {
	p.Rules = slices.Clone(p.Rules[:len(p.Rules)+spare])
	for i := range len(p.Rules) - spare {
		p.Rules[i].Actions = whole(p.Rules[i].Actions)
	}
	p.Actions, p.Roles, p.Objects, p.Groups = whole(p.Actions), whole(p.Roles), whole(p.Objects), whole(p.Groups)
	p.Members, p.Inherits, p.Parts, p.Withins = whole(p.Members), whole(p.Inherits), whole(p.Parts), whole(p.Withins)
	p.Subjects, p.Excepts = whole(p.Subjects), whole(p.Excepts)
	return p
}

func TestWhatIsHandedInStaysAsItIs(t *testing.T) {
	house := house()
	house.Rules = []api.Rule{rule("staff", "building", "open read"), rule("ann", "door", ""), denying(rule("bob", "safe", "open"))}
	house.Excepts = triples("ann/door/read")
	for _, p := range []api.Policy{load(t, example), house, {}} {
		p = sparedPolicy(p)
		before := wholePolicy(p)
		r := api.Rule{Who: "staff", What: "building", Actions: spared([]string{"read", "open"}, "spare")}
		for range 2 {
			mean.Relation(p)
			mean.Mask(p, "ann", "door")
			mean.Allows(p, triple("ann/door/open"))
			mean.Matches(p, r, triple("ann/door/open"))
			mean.Passes(r, 0.5)
		}
		if !reflect.DeepEqual(wholePolicy(p), before) {
			t.Errorf("the policy has become %v, from %v", wholePolicy(p), before)
		}
		if !slices.Equal(whole(r.Actions), []string{"read", "open", "spare", "spare", "spare"}) {
			t.Errorf("the rule's actions have become %v", whole(r.Actions))
		}
	}
}

// apart makes each text of a policy a text of its own, and notes where it lies.
func apart(p api.Policy, given map[*byte]bool) api.Policy {
	own := func(s *string) {
		*s = strings.Clone(*s)
		given[unsafe.StringData(*s)] = true
	}
	p = sparedPolicy(p)
	for _, l := range [][]string{p.Actions, p.Roles, p.Objects, p.Groups} {
		for i := range l {
			own(&l[i])
		}
	}
	for _, l := range [][]api.Pair{p.Members, p.Inherits, p.Parts, p.Withins} {
		for i := range l {
			own(&l[i].From)
			own(&l[i].To)
		}
	}
	for i := range p.Subjects {
		own(&p.Subjects[i].Name)
	}
	for i := range p.Excepts {
		own(&p.Excepts[i].Subject)
		own(&p.Excepts[i].Object)
		own(&p.Excepts[i].Action)
	}
	for i := range p.Rules {
		own(&p.Rules[i].Who)
		own(&p.Rules[i].What)
		for j := range p.Rules[i].Actions {
			own(&p.Rules[i].Actions[j])
		}
	}
	return p
}

func TestTheRelationSharesNoText(t *testing.T) {
	p := house()
	p.Rules = []api.Rule{rule("staff", "building", "open read"), rule("ann", "door", "")}
	p.Excepts = triples("ann/door/read")
	noted := map[*byte]bool{}
	p = apart(p, noted)
	for range 2 {
		got := mean.Relation(p)
		if len(got) != 18 {
			t.Fatalf("%d triples", len(got))
		}
		own := map[*byte]bool{}
		for _, x := range got {
			for _, name := range []string{x.Subject, x.Object, x.Action} {
				if noted[unsafe.StringData(name)] {
					t.Errorf("%s of %v is a text that stands elsewhere", name, x)
				}
				own[unsafe.StringData(name)] = true
			}
		}
		for at := range own {
			noted[at] = true
		}
	}
}

// Nothing is kept from call to call, and no answer is another one's.
func TestAnswersAreApart(t *testing.T) {
	p := load(t, example)
	a := mean.Relation(p)
	b := mean.Relation(p)
	clear(a[:cap(a)])
	if written(b) != "ann/door1/open" {
		t.Errorf("%v", b)
	}
	wantRelation(t, "asked again", p, "ann/door1/open")
	p.Excepts = nil
	wantRelation(t, "without the except", p, "ann/door1/open ann/door1/read")
	p.Subjects[0].Trust = 0
	wantRelation(t, "with less trust", p, "")
}
