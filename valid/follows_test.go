package valid_test

import (
	"math"
	"slices"
	"strings"
	"testing"

	"gatehouse/api"
	"gatehouse/canon"
	"gatehouse/valid"
)

// wantMadeAgain asks that a right policy comes of its own declarations, and of its own text.
func wantMadeAgain(t *testing.T, p api.Policy) {
	t.Helper()
	wantRight(t, p)
	wantPolicy(t, thingByThing(p), p)
	wantPolicy(t, canon.Decls(p), p)
	text, e := canon.Text(p)
	if e != api.OK || len(text) > api.MaxText {
		t.Fatalf("%v has a text of %d bytes, %v", p, len(text), e)
	}
	wantLoaded(t, text, p)
}

// named is full with other names.
func named(action, subject, role, object, group string) api.Policy {
	p := full()
	p.Actions[0], p.Subjects[1].Name, p.Roles[0], p.Objects[0], p.Groups[0] = action, subject, role, object, group
	for i := range p.Members {
		p.Members[i].From = strings.Replace(p.Members[i].From, "bob", subject, 1)
		p.Members[i].To = strings.Replace(p.Members[i].To, "clerk", role, 1)
	}
	p.Inherits = []api.Pair{{From: role, To: "guard"}, {From: "guard", To: role}, {From: role, To: role}}
	p.Parts = []api.Pair{{From: object, To: group}, {From: "ann", To: group}}
	p.Withins = []api.Pair{{From: group, To: group}, {From: group, To: "building"}}
	p.Rules = []api.Rule{{Who: role, What: group, Actions: []string{"ann", action}, Cond: api.Below, Level: 0.125}, {Deny: true, Who: subject, What: object}}
	p.Excepts = []api.Triple{{Subject: subject, Object: object, Action: action}}
	return p
}

func TestARightPolicyIsMadeAgain(t *testing.T) {
	wantMadeAgain(t, api.Policy{})
	wantMadeAgain(t, basePolicy())
	wantMadeAgain(t, full())
	wantMadeAgain(t, examplePolicy())
	for _, s := range []string{"a", "the vault", "action", "trust", "on", "*", "1", "0.5", "\"", "\\", "é", "\u00a0", " ", "#", "\ufffd", strings.Repeat("\"", 32)} {
		wantMadeAgain(t, named(s, s, "r", s, "g"))
		wantMadeAgain(t, named("a", "s", s, "o", s))
	}
	for i := range 1000 {
		p := full()
		p.Subjects[0].Trust, p.Rules[0].Level, p.Rules[2].Level = float64(i)/1000, float64(1000-i)/1000, float64(i)/1e9
		wantMadeAgain(t, p)
	}
}

func TestWhatBuildMakesIsRight(t *testing.T) {
	h := thrower{dice: 31, most: 6, sloppy: 400}
	made := 0
	for range 5000 {
		p, err := valid.Build(h.thrown(h.below(12)))
		if err != nil {
			continue
		}
		made++
		wantMadeAgain(t, p)
	}
	if made < 1000 {
		t.Errorf("%d policies alone", made)
	}
}

func TestSpoiltPolicies(t *testing.T) {
	h := thrower{dice: 37, most: 6, sloppy: 100}
	right := 0
	for range 5000 {
		p, _ := valid.Build(h.thrown(h.below(12)))
		spoil(&h, &p)
		made, err := valid.Build(thingByThing(p))
		want, got := faultOf(t, err), faultOf(t, valid.Check(p))
		if got != want {
			t.Fatalf("Check(%v) = %v, want %v", p, &got, &want)
		}
		if want.Code == api.OK {
			right++
			if !same(made, p) {
				t.Fatalf("%v is made again as %v", p, made)
			}
		}
	}
	if right < 500 || right > 4500 {
		t.Errorf("%d of 5000 are right", right)
	}
}

// spoil changes a thing of a policy, so that it may be wrong.
func spoil(h *thrower, p *api.Policy) {
	pairs := []*[]api.Pair{&p.Members, &p.Inherits, &p.Parts, &p.Withins}[h.below(4)]
	switch h.below(6) {
	case 0:
		if n := len(*pairs); n > 0 {
			*pairs = append(*pairs, (*pairs)[h.below(n)])
		}
	case 1:
		*pairs = append(*pairs, api.Pair{From: h.name("r").Text, To: h.name("r").Text})
	case 2:
		p.Rules = append(p.Rules, api.Rule{Who: h.name("s").Text, What: h.name("g").Text, Cond: int8(h.below(4)), Level: []float64{0, 0.5, math.Copysign(0, -1)}[h.below(3)]})
	case 3:
		if n := len(p.Roles); n > 0 {
			p.Roles = slices.Delete(p.Roles, 0, 1+h.below(n))
		}
	case 4:
		p.Excepts = append(p.Excepts, api.Triple{Subject: h.name("s").Text, Object: h.name("o").Text, Action: h.name("a").Text})
	}
}

// Behind a fault of the first way anything may stand, and whatever is used.
func TestWhatStandsBehindAFault(t *testing.T) {
	h := thrower{dice: 41, most: 6, sloppy: 5}
	for _, m := range slices.Concat(kindMistakes()[120:140], nameMistakes()) {
		for range 20 {
			var ahead []api.Decl
			for _, d := range base() {
				for range h.below(3) {
					ahead = append(ahead, h.using())
				}
				ahead = append(ahead, d)
			}
			wantFault(t, append(append(ahead, m.d), h.thrown(h.below(5))...), m.want)
		}
	}
}
