package delta_test

import (
	"math"
	"strings"
	"testing"

	"gatehouse/api"
)

// good is a delta that the house takes, and where it is seen in the house's text: in a line more, or in one that is written otherwise or gone.
type good struct {
	d        api.Delta
	more     string
	old, new string
}

func goods() []good {
	return []good{
		{d: ruling(api.Rule{Who: "boss", What: "safe", Actions: []string{"shut", "open"}, Cond: api.Below, Level: 0.75}), more: "allow boss on safe : shut, open below 0.75;"},
		{d: ruling(api.Rule{Deny: true, Who: "eve", What: "hall"}), more: "deny eve on hall : *;"},
		{d: ruling(api.Rule{Deny: true, Who: "guard", What: "safe"}), more: "deny guard on safe : *;"},
		{d: dropping(1), old: "allow clerk on doors : open, read;"},
		{d: dropping(2), old: "deny guard on safe : *;"},
		{d: dropping(3), old: "allow eve on building : shut above 0.5;"},
		{d: trusting(api.DeltaSubject, "dan", 0.125), more: "subject dan trust 0.125;"},
		{d: trusting(api.DeltaSubject, "door", 1), more: "subject door;"},
		{d: trusting(api.DeltaSubject, "the night watch", 0), more: `subject "the night watch" trust 0;`},
		{d: named(api.DeltaRole, "cook"), more: "role cook;"},
		{d: named(api.DeltaRole, "open"), more: "role open;"},
		{d: named(api.DeltaObject, "yard"), more: "object yard;"},
		{d: named(api.DeltaObject, "ann"), more: "object ann;"},
		{d: named(api.DeltaGroup, "roof"), more: "group roof;"},
		{d: named(api.DeltaGroup, "clerk"), more: "group clerk;"},
		{d: paired(api.DeltaMember, "eve/boss"), more: "member eve : boss;"},
		{d: paired(api.DeltaInherit, "clerk/boss"), more: "inherit clerk : boss;"},
		{d: paired(api.DeltaInherit, "boss/boss"), more: "inherit boss : boss;"},
		{d: paired(api.DeltaPart, "safe/rooms"), more: "part safe : rooms;"},
		{d: paired(api.DeltaWithin, "building/doors"), more: "within building : doors;"},
		{d: paired(api.DeltaUnmember, "ann/clerk"), old: "member ann : clerk, guard;", new: "member ann : guard;"},
		{d: paired(api.DeltaUnmember, "ann/guard"), old: "member ann : clerk, guard;", new: "member ann : clerk;"},
		{d: paired(api.DeltaUnmember, "bob/guard"), old: "member bob : guard;"},
		{d: paired(api.DeltaDisown, "guard/clerk"), old: "inherit guard : clerk;"},
		{d: paired(api.DeltaDisown, "boss/guard"), old: "inherit boss : guard;"},
		{d: paired(api.DeltaUnpart, "door/doors"), old: "part door : doors;"},
		{d: paired(api.DeltaUnpart, "hall/rooms"), old: "part hall : rooms;"},
		{d: paired(api.DeltaUnwithin, "doors/building"), old: "within doors : building;"},
		{d: paired(api.DeltaUnwithin, "rooms/building"), old: "within rooms : building;"},
		{d: excepting(api.DeltaExcept, "eve/safe/shut"), more: "except eve on safe : shut;"},
		{d: excepting(api.DeltaRestore, "ann/door/read"), old: "except ann on door : read;"},
		{d: excepting(api.DeltaRestore, "bob/hall/open"), old: "except bob on hall : open;"},
		{d: trusting(api.DeltaTrust, "ann", 0), old: "subject ann trust 0.25;", new: "subject ann trust 0;"},
		{d: trusting(api.DeltaTrust, "bob", 0.000000001), old: "subject bob trust 0.5;", new: "subject bob trust 0.000000001;"},
		{d: trusting(api.DeltaTrust, "bob", 0.5)},
		{d: trusting(api.DeltaTrust, "eve", 0.75), old: "subject eve;", new: "subject eve trust 0.75;"},
	}
}

func (g good) policy(t *testing.T) api.Policy {
	t.Helper()
	if strings.Count(house, g.old) != 1 && g.old != "" {
		t.Fatalf("%q does not stand once in the house's text", g.old)
	}
	return load(t, strings.Replace(house, g.old, g.new, 1)+g.more)
}

func TestEachKindOfDelta(t *testing.T) {
	seen := map[int8]int{}
	for _, g := range goods() {
		wantOne(t, load(t, house), g.d, g.policy(t))
		seen[g.d.Kind]++
	}
	if len(seen) != 17 {
		t.Errorf("%d kinds", len(seen))
	}
}

// filled has something that would be wrong in each field that is zero in a delta, or something else that would do.
func filled(d api.Delta, fields int) api.Delta {
	all := []api.Delta{
		{Rule: api.Rule{Who: "nobody", What: "nothing", Actions: []string{"open", "open"}, Cond: 9, Level: -1}, At: -7, Name: "\n", Trust: math.NaN(), Pair: pair("nobody/nothing"), Triple: triple("nobody/nothing/never")},
		{Rule: api.Rule{Who: "ann", What: "door"}, At: 1, Name: "new", Trust: 0.5, Pair: pair("ann/boss"), Triple: triple("ann/door/open")},
	}[fields]
	all.Kind = d.Kind
	switch {
	case d.Kind == api.DeltaAllow:
		all.Rule = d.Rule
	case d.Kind == api.DeltaDrop:
		all.At = d.At
	case d.Kind == api.DeltaSubject || d.Kind == api.DeltaTrust:
		all.Name, all.Trust = d.Name, d.Trust
	case d.Kind < api.DeltaMember:
		all.Name = d.Name
	case d.Kind < api.DeltaExcept:
		all.Pair = d.Pair
	default:
		all.Triple = d.Triple
	}
	return all
}

func TestTheOtherFieldsCountForNothing(t *testing.T) {
	for fields := range 2 {
		for _, g := range goods() {
			wantOne(t, load(t, house), filled(g.d, fields), g.policy(t))
		}
		for _, b := range bads() {
			wantRefused(t, load(t, house), filled(b.d, fields), b.want)
		}
		for kind := math.MinInt8; kind <= math.MaxInt8; kind++ {
			if kind < 1 || kind > 17 {
				d := filled(api.Delta{Kind: api.DeltaExcept}, fields)
				d.Kind = int8(kind)
				wantRefused(t, load(t, house), d, api.ErrKind)
			}
		}
	}
}

// bad is a delta that the house does not take.
type bad struct {
	d    api.Delta
	want api.Errno
}

func badNames() []bad {
	var l []bad
	for kind := api.DeltaSubject; kind <= api.DeltaGroup; kind++ {
		for _, name := range []string{"", "a\n", "\x7f", "\xff", strings.Repeat("n", 33)} {
			l = append(l, bad{named(kind, name), api.ErrName})
		}
	}
	for _, name := range []string{"ann", "eve", "clerk", "boss"} {
		l = append(l, bad{named(api.DeltaSubject, name), api.ErrTwice}, bad{named(api.DeltaRole, name), api.ErrTwice})
	}
	for _, name := range []string{"door", "safe", "doors", "building"} {
		l = append(l, bad{named(api.DeltaObject, name), api.ErrTwice}, bad{named(api.DeltaGroup, name), api.ErrTwice})
	}
	for _, trust := range noNumbers() {
		l = append(l, bad{trusting(api.DeltaSubject, "dan", trust), api.ErrNumber}, bad{trusting(api.DeltaTrust, "bob", trust), api.ErrNumber})
		l = append(l, bad{trusting(api.DeltaSubject, "ann", trust), api.ErrTwice}, bad{trusting(api.DeltaSubject, "", trust), api.ErrName})
		for _, name := range []string{"dan", "clerk", "door", "open", "", "\n"} {
			l = append(l, bad{trusting(api.DeltaTrust, name, trust), api.ErrUnknown}, bad{trusting(api.DeltaTrust, name, 0.5), api.ErrUnknown})
		}
	}
	return l
}

// noNumbers are floats that no text means.
func noNumbers() []float64 {
	return []float64{math.Copysign(0, -1), -1, -0.5, 2, 1.000000001, 0.1234567891, 0.0000000001, math.Inf(1), math.Inf(-1), math.NaN()}
}

func badPairs() []bad {
	return []bad{
		{paired(api.DeltaMember, "ann/guard"), api.ErrTwice},
		{paired(api.DeltaMember, "bob/guard"), api.ErrTwice},
		{paired(api.DeltaMember, "clerk/guard"), api.ErrUnknown},
		{paired(api.DeltaMember, "ann/bob"), api.ErrUnknown},
		{paired(api.DeltaMember, "nobody/guard"), api.ErrUnknown},
		{paired(api.DeltaMember, "/"), api.ErrUnknown},
		{paired(api.DeltaInherit, "guard/clerk"), api.ErrTwice},
		{paired(api.DeltaInherit, "ann/clerk"), api.ErrUnknown},
		{paired(api.DeltaInherit, "clerk/ann"), api.ErrUnknown},
		{paired(api.DeltaPart, "hall/rooms"), api.ErrTwice},
		{paired(api.DeltaPart, "doors/rooms"), api.ErrUnknown},
		{paired(api.DeltaPart, "hall/door"), api.ErrUnknown},
		{paired(api.DeltaWithin, "rooms/building"), api.ErrTwice},
		{paired(api.DeltaWithin, "door/building"), api.ErrUnknown},
		{paired(api.DeltaWithin, "rooms/clerk"), api.ErrUnknown},
		{paired(api.DeltaUnmember, "guard/bob"), api.ErrNoPair},
		{paired(api.DeltaUnmember, "bob/clerk"), api.ErrNoPair},
		{paired(api.DeltaUnmember, "guard/clerk"), api.ErrNoPair},
		{paired(api.DeltaUnmember, "/"), api.ErrNoPair},
		{paired(api.DeltaDisown, "clerk/guard"), api.ErrNoPair},
		{paired(api.DeltaDisown, "bob/guard"), api.ErrNoPair},
		{paired(api.DeltaDisown, "nobody/clerk"), api.ErrNoPair},
		{paired(api.DeltaUnpart, "doors/door"), api.ErrNoPair},
		{paired(api.DeltaUnpart, "doors/building"), api.ErrNoPair},
		{paired(api.DeltaUnwithin, "building/doors"), api.ErrNoPair},
		{paired(api.DeltaUnwithin, "door/doors"), api.ErrNoPair},
	}
}

func badRules() []bad {
	var l []bad
	for _, at := range []int{0, -1, 4, 5, math.MinInt, math.MaxInt} {
		l = append(l, bad{dropping(at), api.ErrNoRule})
	}
	for _, deny := range []bool{false, true} {
		good := api.Rule{Deny: deny, Who: "ann", What: "door", Actions: []string{"open"}}
		add := func(want api.Errno, change func(r *api.Rule)) {
			r := good
			change(&r)
			l = append(l, bad{ruling(r), want})
		}
		add(api.ErrUnknown, func(r *api.Rule) { r.Who = "door" })
		add(api.ErrUnknown, func(r *api.Rule) { r.Who = "" })
		add(api.ErrUnknown, func(r *api.Rule) { r.What = "ann" })
		add(api.ErrUnknown, func(r *api.Rule) { r.What, r.Actions = "nothing", nil })
		add(api.ErrUnknown, func(r *api.Rule) { r.Actions = []string{"open", "never"} })
		add(api.ErrTwice, func(r *api.Rule) { r.Actions = []string{"open", "read", "open"} })
		add(api.ErrArg, func(r *api.Rule) { r.Cond = 3 })
		add(api.ErrArg, func(r *api.Rule) { r.Cond = -1 })
		add(api.ErrNumber, func(r *api.Rule) { r.Level = 0.5 })
		for _, level := range noNumbers() {
			add(api.ErrNumber, func(r *api.Rule) { r.Level = level })
			add(api.ErrNumber, func(r *api.Rule) { r.Level, r.Cond = level, api.Above })
			add(api.ErrNumber, func(r *api.Rule) { r.Level, r.Cond = level, api.Below })
		}
	}
	return l
}

func badExcepts() []bad {
	return []bad{
		{excepting(api.DeltaExcept, "ann/door/read"), api.ErrTwice},
		{excepting(api.DeltaExcept, "bob/hall/open"), api.ErrTwice},
		{excepting(api.DeltaExcept, "clerk/door/read"), api.ErrUnknown},
		{excepting(api.DeltaExcept, "ann/doors/read"), api.ErrUnknown},
		{excepting(api.DeltaExcept, "ann/door/never"), api.ErrUnknown},
		{excepting(api.DeltaExcept, "//"), api.ErrUnknown},
		{excepting(api.DeltaRestore, "ann/door/open"), api.ErrNoExcept},
		{excepting(api.DeltaRestore, "ann/hall/open"), api.ErrNoExcept},
		{excepting(api.DeltaRestore, "bob/hall/never"), api.ErrNoExcept},
		{excepting(api.DeltaRestore, "//"), api.ErrNoExcept},
	}
}

func bads() []bad {
	l := badNames()
	l = append(l, badPairs()...)
	l = append(l, badRules()...)
	return append(l, badExcepts()...)
}

func TestEachRefusal(t *testing.T) {
	for _, b := range bads() {
		wantRefused(t, load(t, house), b.d, b.want)
	}
}

// Of a policy without anything nothing can be taken out.
func TestAPolicyWithoutAnything(t *testing.T) {
	wantOne(t, api.Policy{}, trusting(api.DeltaSubject, "ann", 0.5), load(t, "subject ann trust 0.5;"))
	wantOne(t, api.Policy{}, named(api.DeltaRole, "r"), load(t, "role r;"))
	wantOne(t, api.Policy{}, named(api.DeltaObject, "o"), load(t, "object o;"))
	wantOne(t, api.Policy{}, named(api.DeltaGroup, "g"), load(t, "group g;"))
	for kind, want := range map[int8]api.Errno{1: 60, 2: 90, 7: 60, 8: 60, 9: 60, 10: 60, 11: 91, 12: 91, 13: 91, 14: 91, 15: 60, 16: 92, 17: 60} {
		wantRefused(t, api.Policy{}, api.Delta{Kind: kind}, want)
		wantRefused(t, api.Policy{}, filled(api.Delta{Kind: kind, At: 1}, 1), want)
	}
}

// A pair of one list is none of another, also where the names are the same.
func TestEachPairHasItsList(t *testing.T) {
	p := load(t, "subject a; role b; object a; group b; inherit b : b; within b : b;")
	wantOne(t, p, paired(api.DeltaMember, "a/b"), load(t, "subject a; role b; object a; group b; inherit b : b; within b : b; member a : b;"))
	wantOne(t, p, paired(api.DeltaPart, "a/b"), load(t, "subject a; role b; object a; group b; inherit b : b; within b : b; part a : b;"))
	wantOne(t, p, paired(api.DeltaDisown, "b/b"), load(t, "subject a; role b; object a; group b; within b : b;"))
	wantOne(t, p, paired(api.DeltaUnwithin, "b/b"), load(t, "subject a; role b; object a; group b; inherit b : b;"))
	wantRefused(t, p, paired(api.DeltaUnmember, "b/b"), api.ErrNoPair)
	wantRefused(t, p, paired(api.DeltaUnpart, "b/b"), api.ErrNoPair)
}

// One rule may stand there twice; the one that is counted goes.
func TestARuleTwice(t *testing.T) {
	const two = "action o; subject a, b; object d; allow a on d : o; allow b on d : o;"
	p := load(t, two)
	p, q := load(t, two+"allow a on d : o;"), p
	wantOne(t, q, ruling(q.Rules[0]), p)
	wantOne(t, p, dropping(3), q)
	wantOne(t, p, dropping(1), load(t, "action o; subject a, b; object d; allow b on d : o; allow a on d : o;"))
	wantOne(t, p, dropping(2), load(t, "action o; subject a, b; object d; allow a on d : o; allow a on d : o;"))
}

// Pairs may make a ring.
func TestARingIsRight(t *testing.T) {
	const line = "role a, b, c; group x, y; inherit a : b; inherit b : c; within x : y;"
	wantOne(t, load(t, line), paired(api.DeltaInherit, "c/a"), load(t, line+"inherit c : a;"))
	wantOne(t, load(t, line), paired(api.DeltaWithin, "y/x"), load(t, line+"within y : x;"))
	wantOne(t, load(t, line), paired(api.DeltaWithin, "y/y"), load(t, line+"within y : y;"))
}
