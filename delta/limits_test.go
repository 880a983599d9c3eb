package delta_test

import (
	"slices"
	"strconv"
	"strings"
	"testing"

	"gatehouse/api"
	"gatehouse/canon"
	"gatehouse/delta"
)

func allPairs(from, to []string) []api.Pair {
	var l []api.Pair
	for _, f := range from {
		for _, t := range to {
			l = append(l, api.Pair{From: f, To: t})
		}
	}
	return l
}

// crowded has as much in each list as there may be.
func crowded(t *testing.T) api.Policy {
	t.Helper()
	p := api.Policy{Actions: numbered("a", 16), Roles: numbered("r", 64), Objects: numbered("o", 64), Groups: numbered("g", 64)}
	for _, s := range numbered("s", 64) {
		p.Subjects = append(p.Subjects, api.Subject{Name: s, Trust: 1})
	}
	p.Members, p.Inherits = allPairs(numbered("s", 4), p.Roles), allPairs(p.Roles[:4], p.Roles)
	p.Parts, p.Withins = allPairs(p.Objects[:4], p.Groups), allPairs(p.Groups[:4], p.Groups)
	p.Rules = slices.Repeat([]api.Rule{{Who: "s0", What: "o0"}}, 256)
	for _, s := range numbered("s", 16) {
		for _, a := range p.Actions {
			p.Excepts = append(p.Excepts, api.Triple{Subject: s, Object: "o0", Action: a})
		}
	}
	if e := code(p); e != api.OK {
		t.Fatalf("the crowded policy has the fault %d", e)
	}
	return p
}

func TestOneTooMany(t *testing.T) {
	p := crowded(t)
	for _, d := range []api.Delta{
		ruling(p.Rules[0]),
		trusting(api.DeltaSubject, "new", 1), named(api.DeltaRole, "new"), named(api.DeltaObject, "new"), named(api.DeltaGroup, "new"),
		paired(api.DeltaMember, "s4/r0"), paired(api.DeltaInherit, "r4/r0"), paired(api.DeltaPart, "o4/g0"), paired(api.DeltaWithin, "g4/g0"),
		excepting(api.DeltaExcept, "s0/o1/a0"),
	} {
		wantRefused(t, p, d, api.ErrMany)
	}
	for _, d := range []api.Delta{trusting(api.DeltaSubject, "s0", 1), named(api.DeltaObject, "o0"), paired(api.DeltaMember, "s3/r63"), excepting(api.DeltaExcept, "s15/o0/a15")} {
		wantRefused(t, p, d, api.ErrTwice)
	}
	wantRefused(t, p, dropping(257), api.ErrNoRule)
	wantNotRevoked(t, p, "s0/o1/a0", api.ErrMany)
	wantRevoked(t, p, "s15/o0/a15", p)
}

// What is taken out of a list that is full leaves room for one.
func TestRoomForOne(t *testing.T) {
	p := crowded(t)
	for _, x := range [][2]api.Delta{
		{dropping(256), ruling(p.Rules[255])},
		{paired(api.DeltaUnmember, "s3/r63"), paired(api.DeltaMember, "s3/r63")},
		{paired(api.DeltaDisown, "r3/r63"), paired(api.DeltaInherit, "r3/r63")},
		{paired(api.DeltaUnpart, "o3/g63"), paired(api.DeltaPart, "o3/g63")},
		{paired(api.DeltaUnwithin, "g3/g63"), paired(api.DeltaWithin, "g3/g63")},
		{excepting(api.DeltaRestore, "s15/o0/a15"), excepting(api.DeltaExcept, "s15/o0/a15")},
	} {
		wantApplied(t, p, x[:], p)
		wantStopped(t, p, []api.Delta{x[0], x[1], ruling(p.Rules[0])}, 2, api.ErrMany)
		one, e := delta.One(p, x[0])
		if e != api.OK {
			t.Fatalf("One(%+v) = %d", x[0], e)
		}
		wantOne(t, one, x[1], p)
	}
}

func textLength(t *testing.T, p api.Policy) int {
	t.Helper()
	text, e := canon.Text(p)
	if e != api.OK {
		t.Fatalf("no text: %d", e)
	}
	return len(text)
}

// padded is a name of that many bytes.
func padded(name string, length int) string { return name + strings.Repeat("x", length-len(name)) }

// long is a policy whose own text has just that many bytes: rules of long names, and roles that are not used.
func long(t *testing.T, length int) api.Policy {
	t.Helper()
	p := api.Policy{Subjects: []api.Subject{{Name: padded("s", 32), Trust: 1}}, Objects: []string{padded("o", 32)}}
	for _, a := range numbered("a", 16) {
		p.Actions = append(p.Actions, padded(a, 32))
	}
	rule := api.Rule{Who: p.Subjects[0].Name, What: p.Objects[0], Actions: p.Actions}
	for textLength(t, p) < length-1000 {
		p.Rules = append(p.Rules, rule)
	}
	rule.Actions = p.Actions[:1]
	for textLength(t, p) < length-200 {
		p.Rules = append(p.Rules, rule)
	}
	return filledUp(t, p, length)
}

// filledUp has some roles more; the last of them must be 2 bytes long at least, and 32 at most.
func filledUp(t *testing.T, p api.Policy, length int) api.Policy {
	t.Helper()
	const line = len("role ;\n")
	for missing := length - textLength(t, p); missing > 0; missing = length - textLength(t, p) {
		size := missing - line
		if missing > 32+line {
			size = min(32, missing-2*line-2)
		}
		p.Roles = append(p.Roles, padded("r"+strconv.Itoa(len(p.Roles)), size))
	}
	if n := textLength(t, p); n != length {
		t.Fatalf("%d bytes in the place of %d", n, length)
	}
	return p
}

func TestTheOwnTextOfWhatComesOfIt(t *testing.T) {
	most := long(t, api.MaxText)
	if e := code(most); e != api.OK || textLength(t, most) != 65536 {
		t.Fatalf("%d bytes, fault %d", textLength(t, most), e)
	}
	wantRefused(t, most, named(api.DeltaRole, "q"), api.ErrLong)
	wantRefused(t, most, ruling(most.Rules[0]), api.ErrLong)
	wantRefused(t, most, trusting(api.DeltaTrust, most.Subjects[0].Name, 0.5), api.ErrLong)
	wantRefused(t, most, excepting(api.DeltaExcept, most.Subjects[0].Name+"/"+most.Objects[0]+"/"+most.Actions[0]), api.ErrLong)
	wantNotRevoked(t, most, most.Subjects[0].Name+"/"+most.Objects[0]+"/"+most.Actions[0], api.ErrLong)
	wantRefused(t, most, named(api.DeltaRole, most.Roles[0]), api.ErrTwice)
	shorter := most
	shorter.Rules = most.Rules[1:]
	wantOne(t, most, dropping(1), shorter)
	one := len("role q;\n")
	for _, length := range []int{api.MaxText - one, api.MaxText - one + 1} {
		p := long(t, length)
		if want := p; length+one <= api.MaxText {
			want.Roles = append(slices.Clone(p.Roles), "q")
			wantOne(t, p, named(api.DeltaRole, "q"), want)
		} else {
			wantRefused(t, p, named(api.DeltaRole, "q"), api.ErrLong)
			wantApplied(t, p, []api.Delta{dropping(1), named(api.DeltaRole, "q"), named(api.DeltaRole, "qq")}, api.Policy{Actions: p.Actions, Subjects: p.Subjects, Roles: append(slices.Clone(p.Roles), "q", "qq"), Objects: p.Objects, Rules: p.Rules[1:]})
			wantStopped(t, p, []api.Delta{named(api.DeltaRole, "q"), dropping(1)}, 0, api.ErrLong)
		}
	}
}

// A delta may be longer than any policy.
func TestAVeryLongDelta(t *testing.T) {
	p := load(t, small)
	wantRefused(t, p, named(api.DeltaRole, strings.Repeat("n", 1<<20)), api.ErrName)
	wantRefused(t, p, ruling(api.Rule{Who: "ann", What: "door", Actions: numbered("a", 100000)}), api.ErrUnknown)
	wantRefused(t, p, ruling(api.Rule{Who: "ann", What: "door", Actions: slices.Repeat([]string{"open"}, 100000)}), api.ErrTwice)
}
