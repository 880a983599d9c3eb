package why_test

import (
	"math"
	"slices"
	"testing"

	"gatehouse/api"
)

// ringed has a way about a ring, one that leads away and back, and one that is longer than it must be.
func ringed() api.Policy {
	p := ruled(rule("guest", "yard", ""), rule("staff", "building", "open"), denying(rule("guard", "hall", "read")), rule("ann", "door", ""))
	p.Excepts = triples("bob/safe/open ann/door/read ann/door/write ann/door/read")
	return p
}

func TestWaysThatHold(t *testing.T) {
	p := ringed()
	const short, wide = "ann > guard > clerk > staff", "door > hall > floor > building"
	for _, c := range []struct {
		who, what string
		want      bool
	}{
		{short, wide, true},
		{"ann > guard > clerk > staff > clerk > staff", wide, true},
		{"ann > guard > clerk > staff > clerk > staff > clerk > staff", "door > hall > floor > yard > floor > yard > floor > building", true},
		{short, "door > hall > floor > yard > floor > building", true},
		{"", wide, false},
		{short, "", false},
		{"", "", false},
		{"ann", wide, false},
		{"staff", wide, false},
		{"ann > staff", wide, false},
		{"ann > guard > staff", wide, false},
		{"ann > guard > clerk", wide, false},
		{"guard > clerk > staff", wide, false},
		{"bob > staff", wide, false},
		{"ann > ann > guard > clerk > staff", wide, false},
		{"ann > guard > clerk > staff > staff", wide, false},
		{"ann > guard > clerk > staff > clerk", wide, false},
		{"staff > clerk > guard > ann", wide, false},
		{"ann > guard > clerk > x > staff", wide, false},
		{"x > ann > guard > clerk > staff", wide, false},
		{short, "door", false},
		{short, "building", false},
		{short, "door > building", false},
		{short, "door > hall > building", false},
		{short, "door > hall > floor", false},
		{short, "hall > floor > building", false},
		{short, "safe > floor > building", false},
		{short, "door > hall > hall > floor > building", false},
		{short, "building > floor > hall > door", false},
		{wide, short, false},
	} {
		wantHolds(t, "a way", p, triple("ann/door/open"), reason(api.WhyAllowed, 2, c.who, c.what), c.want)
	}
	own := ruled(rule("ann", "door", ""))
	x := triple("ann/door/open")
	wantHolds(t, "the names themselves", own, x, reason(api.WhyAllowed, 1, "ann", "door"), true)
	wantHolds(t, "away and back, without a pair", own, x, reason(api.WhyAllowed, 1, "ann > ann", "door"), false)
	wantHolds(t, "away and back, without a pair", own, x, reason(api.WhyAllowed, 1, "ann", "door > door"), false)
	own.Inherits, own.Withins = pairs("guard>ann ann>ann"), pairs("floor>door hall>x")
	wantHolds(t, "the names themselves", own, x, reason(api.WhyAllowed, 1, "ann", "door"), true)
	wantHolds(t, "away and back", own, x, reason(api.WhyAllowed, 1, "ann > guard > ann", "door"), true)
	wantHolds(t, "to itself, and away and back twice", own, x, reason(api.WhyAllowed, 1, "ann > ann > guard > ann > guard > ann > ann", "door"), true)
	wantHolds(t, "away, and not back", own, x, reason(api.WhyAllowed, 1, "ann > guard", "door"), false)
	wantHolds(t, "away, and not back", own, x, reason(api.WhyAllowed, 1, "ann", "door > hall"), false)
	own.Parts, own.Withins = pairs("floor>door"), pairs("door>floor")
	wantHolds(t, "away and back", own, x, reason(api.WhyAllowed, 1, "ann", "door > floor > door"), true)
	wantHolds(t, "by the pairs of whats", own, x, reason(api.WhyAllowed, 1, "ann > floor > ann", "door"), false)
	own.Parts, own.Members = pairs("door>ann ann>door"), pairs("ann>door door>ann")
	wantHolds(t, "each by its own pairs", own, x, reason(api.WhyAllowed, 1, "ann > door > ann", "door > ann > door"), true)
	own.Parts = nil
	wantHolds(t, "each by its own pairs", own, x, reason(api.WhyAllowed, 1, "ann > door > ann", "door > ann > door"), false)
}

// Every verdict and every rule's place, with the ways of a rule and without any.
func TestEachVerdictWithEachRule(t *testing.T) {
	p := ringed()
	places := []int{math.MinInt, math.MinInt + 1, -3, -1, 0, 1, 2, 3, 4, 5, 6, math.MaxInt}
	verdicts := []int8{-128, -1, 0, 1, 2, 3, 4, 5, 6, 7, 127}
	ways := [][2]string{{"", ""}, {"ann", "door"}, {"ann > guard", "door > hall"}, {"ann > guard > clerk > staff", "door > hall > floor > building"}, {"ann", ""}, {"", "door"}}
	for _, c := range []struct {
		x    string
		want []api.Reason
	}{
		{"ann/door/open", []api.Reason{reason(api.WhyAllowed, 2, ways[3][0], ways[3][1]), reason(api.WhyAllowed, 4, "ann", "door")}},
		// excepted, denied, and with a rule that would allow: that one says nothing
		{"ann/door/read", []api.Reason{reason(api.WhyExcepted, 2, "", ""), reason(api.WhyExcepted, 4, "", ""), reason(api.WhyDenied, 3, "ann > guard", "door > hall")}},
		{"ann/door/write", []api.Reason{reason(api.WhyExcepted, 3, "", "")}},
		{"ann/safe/read", []api.Reason{reason(api.WhyNothing, 0, "", "")}},
		{"ann/safe/shut", []api.Reason{reason(api.WhyUnknown, 0, "", "")}},
		{"ann/hall/read", []api.Reason{reason(api.WhyUnknown, 0, "", "")}},
		{"guard/door/read", []api.Reason{reason(api.WhyUnknown, 0, "", "")}},
		{"dan/gate/shut", []api.Reason{reason(api.WhyUnknown, 0, "", "")}},
	} {
		found := 0
		for _, verdict := range verdicts {
			for _, place := range places {
				for _, w := range ways {
					r := reason(verdict, place, w[0], w[1])
					want := slices.ContainsFunc(c.want, func(o api.Reason) bool { return sameReason(o, r) })
					wantHolds(t, "a reason", p, triple(c.x), r, want)
					if want {
						found++
					}
				}
			}
		}
		if found != len(c.want) {
			t.Errorf("%s: %d of %d reasons were asked for", c.x, found, len(c.want))
		}
	}
}

// Where several verdicts are so, each of them holds: Explain's order says nothing here.
func TestSeveralReasonsHold(t *testing.T) {
	x := triple("ann/door/open")
	p := excepting(house(), "ann/door/open")
	wantHolds(t, "excepted, without a rule", p, x, reason(api.WhyExcepted, 1, "", ""), true)
	wantHolds(t, "excepted, without a rule", p, x, reason(api.WhyNothing, 0, "", ""), true)
	p.Rules = []api.Rule{rule("ann", "door", ""), denying(rule("ann", "door", "")), denying(rule("staff", "door", "open"))}
	wantHolds(t, "excepted, and denied", p, x, reason(api.WhyExcepted, 1, "", ""), true)
	wantHolds(t, "excepted, and denied", p, x, reason(api.WhyDenied, 2, "ann", "door"), true)
	wantHolds(t, "excepted, and denied twice", p, x, reason(api.WhyDenied, 3, "ann > guard > clerk > staff", "door"), true)
	wantHolds(t, "the rule that allows is not the reason", p, x, reason(api.WhyDenied, 1, "ann", "door"), false)
	wantHolds(t, "nor does it allow", p, x, reason(api.WhyAllowed, 1, "ann", "door"), false)
	wantHolds(t, "there are rules", p, x, reason(api.WhyNothing, 0, "", ""), false)
	p.Excepts = nil
	wantHolds(t, "denied, and allowed", p, x, reason(api.WhyDenied, 2, "ann", "door"), true)
	wantHolds(t, "denied, and allowed", p, x, reason(api.WhyAllowed, 1, "ann", "door"), false)
	p.Rules = p.Rules[:1]
	wantHolds(t, "allowed", p, x, reason(api.WhyAllowed, 1, "ann", "door"), true)
	p.Excepts = triples("ann/door/open")
	wantHolds(t, "allowed, and excepted", p, x, reason(api.WhyAllowed, 1, "ann", "door"), false)
}

// A name that is not there is excepted by nothing, and nothing is said of it but that.
func TestReasonsOfNamesThatAreNotThere(t *testing.T) {
	const gone = "dan/door/open ann/gate/open ann/door/shut dan/gate/open dan/door/shut ann/gate/shut dan/gate/shut"
	p := excepting(ruled(rule("dan", "gate", ""), denying(rule("dan", "gate", "")), rule("ann", "door", "shut")), gone)
	for at, x := range p.Excepts {
		wantHolds(t, "not there", p, x, reason(api.WhyUnknown, 0, "", ""), true)
		wantHolds(t, "not there", p, x, reason(api.WhyExcepted, at+1, "", ""), false)
		wantHolds(t, "not there", p, x, reason(api.WhyNothing, 0, "", ""), false)
		wantHolds(t, "not there", p, x, reason(api.WhyAllowed, 1, x.Subject, x.Object), false)
		wantHolds(t, "not there", p, x, reason(api.WhyDenied, 2, x.Subject, x.Object), false)
		wantHolds(t, "not there", p, x, reason(api.WhyUnknown, at+1, "", ""), false)
		wantHolds(t, "not there", p, x, reason(api.WhyUnknown, 0, x.Subject, ""), false)
		wantHolds(t, "not there", p, x, reason(api.WhyUnknown, 0, "", x.Object), false)
	}
	wantHolds(t, "all there", p, triple("ann/door/open"), reason(api.WhyUnknown, 0, "", ""), false)
	wantHolds(t, "nothing is there", api.Policy{}, api.Triple{}, reason(api.WhyUnknown, 0, "", ""), true)
	for verdict := api.WhyExcepted; verdict <= api.WhyNothing; verdict++ {
		for place := range 2 {
			wantHolds(t, "nothing is there", api.Policy{}, api.Triple{}, reason(verdict, place, "", ""), false)
		}
	}
}

// A list without elements is none.
func TestEmptyWaysAreNone(t *testing.T) {
	p := ringed()
	for _, c := range []struct {
		x string
		r api.Reason
	}{
		{"ann/safe/read", reason(api.WhyNothing, 0, "", "")},
		{"ann/door/read", reason(api.WhyExcepted, 2, "", "")},
		{"ann/safe/shut", reason(api.WhyUnknown, 0, "", "")},
	} {
		c.r.Who, c.r.What = []string{}, make([]string, 0, 3)
		wantHolds(t, "empty", p, triple(c.x), c.r, true)
		c.r.Who = []string{""}
		wantHolds(t, "one empty name", p, triple(c.x), c.r, false)
		c.r.Who, c.r.What = nil, []string{""}
		wantHolds(t, "one empty name", p, triple(c.x), c.r, false)
	}
	wantHolds(t, "empty", p, triple("ann/door/open"), api.Reason{Verdict: api.WhyAllowed, Rule: 4, Who: []string{}, What: []string{}}, false)
}

// The rule's own match counts, not its ways alone.
func TestTheRuleMustMatch(t *testing.T) {
	p := ruled(rule("ann", "door", "open"), rule("ann", "door", "read"), api.Rule{Who: "ann", What: "door", Cond: api.Above, Level: 0.75},
		denying(rule("ann", "door", "write")), api.Rule{Deny: true, Who: "ann", What: "door", Cond: api.Below, Level: 0.5})
	for place, want := range []bool{false, true, false, false, false, false, false} {
		wantHolds(t, "allowed", p, triple("ann/door/open"), reason(api.WhyAllowed, place, "ann", "door"), want)
		wantHolds(t, "denied", p, triple("ann/door/open"), reason(api.WhyDenied, place, "ann", "door"), false)
		wantHolds(t, "denied", p, triple("ann/door/write"), reason(api.WhyDenied, place, "ann", "door"), place == 4)
	}
}
