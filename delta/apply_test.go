package delta_test

import (
	"slices"
	"strconv"
	"testing"

	"gatehouse/api"
	"gatehouse/delta"
)

func TestAListOfAllKinds(t *testing.T) {
	list := []api.Delta{
		trusting(api.DeltaSubject, "bob", 0.5),
		named(api.DeltaRole, "guard"),
		paired(api.DeltaMember, "bob/guard"),
		paired(api.DeltaInherit, "guard/clerk"),
		named(api.DeltaObject, "hall"),
		named(api.DeltaGroup, "rooms"),
		named(api.DeltaGroup, "house"),
		paired(api.DeltaPart, "hall/rooms"),
		paired(api.DeltaWithin, "rooms/house"),
		ruling(api.Rule{Who: "guard", What: "house", Actions: []string{"read"}, Cond: api.Above, Level: 0.25}),
		dropping(1),
		excepting(api.DeltaExcept, "bob/hall/read"),
		excepting(api.DeltaExcept, "ann/hall/read"),
		excepting(api.DeltaRestore, "bob/hall/read"),
		trusting(api.DeltaTrust, "bob", 0.75),
		trusting(api.DeltaTrust, "ann", 0.1),
		paired(api.DeltaUnmember, "ann/clerk"),
		paired(api.DeltaDisown, "guard/clerk"),
		paired(api.DeltaInherit, "clerk/guard"),
		paired(api.DeltaUnpart, "hall/rooms"),
		paired(api.DeltaUnwithin, "rooms/house"),
		paired(api.DeltaPart, "hall/house"),
	}
	want := load(t, `action open, read; subject ann trust 0.1; subject bob trust 0.75; role clerk, guard; object door, hall; group rooms, house;
		member bob : guard; inherit clerk : guard; part hall : house; allow guard on house : read above 0.25; except ann on hall : read;`)
	wantApplied(t, load(t, small), list, want)
	for at := range list {
		spoilt := slices.Clone(list)
		spoilt[at] = api.Delta{Kind: 18}
		if at < len(list)-1 {
			spoilt[at+1] = named(api.DeltaRole, "")
		}
		wantStopped(t, load(t, small), spoilt, at, api.ErrKind)
		spoilt[at] = dropping(0)
		wantStopped(t, load(t, small), spoilt, at, api.ErrNoRule)
	}
}

// Each delta is of the policy that the one ahead has left, which must be right by itself.
func TestTheOrderOfAList(t *testing.T) {
	p := load(t, small)
	role, in, out := named(api.DeltaRole, "r"), paired(api.DeltaInherit, "r/clerk"), paired(api.DeltaDisown, "r/clerk")
	wantApplied(t, p, []api.Delta{role, in, out}, load(t, small+"role r;"))
	wantStopped(t, p, []api.Delta{role, out, in}, 1, api.ErrNoPair)
	wantStopped(t, p, []api.Delta{in, role, out}, 0, api.ErrUnknown)
	wantStopped(t, p, []api.Delta{role, in, in}, 2, api.ErrTwice)
	wantStopped(t, p, []api.Delta{role, role}, 1, api.ErrTwice)
	wantApplied(t, p, []api.Delta{role, in, out, in}, load(t, small+"role r; inherit r : clerk;"))
	wantStopped(t, p, []api.Delta{dropping(1), dropping(1)}, 1, api.ErrNoRule)
	same := ruling(p.Rules[0])
	wantApplied(t, p, []api.Delta{same, same, dropping(3), dropping(1)}, p)
}

func restoring(n int) []api.Delta {
	l := slices.Repeat([]api.Delta{excepting(api.DeltaExcept, "ann/door/open"), excepting(api.DeltaRestore, "ann/door/open")}, n/2+1)
	return l[:n]
}

func TestAsManyDeltasAsThereMayBe(t *testing.T) {
	p := load(t, small)
	excepted := load(t, small+"except ann on door : open;")
	wantApplied(t, p, []api.Delta{}, p)
	wantApplied(t, p, restoring(255), excepted)
	wantApplied(t, p, restoring(256), p)
	for _, n := range []int{257, 258, 300, 100000} {
		wantStopped(t, p, restoring(n), 0, api.ErrMany)
		wantStopped(t, p, make([]api.Delta, n), 0, api.ErrMany)
	}
	wantStopped(t, p, make([]api.Delta, 256), 0, api.ErrKind)
	for _, at := range []int{0, 1, 128, 254, 255} {
		l := restoring(256)
		l[at] = api.Delta{}
		wantStopped(t, p, l, at, api.ErrKind)
	}
}

func TestAPolicyThatIsNotRightComesFirst(t *testing.T) {
	for _, x := range wrongs(t) {
		for _, n := range []int{0, 1, 256, 257} {
			wantStopped(t, x.p, make([]api.Delta, n), 0, x.want)
			wantStopped(t, x.p, restoring(n), 0, x.want)
		}
	}
}

// wrong is a policy that is not right, and its fault.
type wrong struct {
	p    api.Policy
	want api.Errno
}

func wrongs(t *testing.T) []wrong {
	t.Helper()
	var l []wrong
	add := func(want api.Errno, change func(p *api.Policy)) {
		p := load(t, house)
		change(&p)
		l = append(l, wrong{p, want})
	}
	add(api.ErrTwice, func(p *api.Policy) { p.Actions[1] = "open" })
	add(api.ErrName, func(p *api.Policy) { p.Groups[2] = "" })
	add(api.ErrMany, func(p *api.Policy) { p.Actions = append(p.Actions, numbered("a", 14)...) })
	add(api.ErrNumber, func(p *api.Policy) { p.Subjects[2].Trust = 2 })
	add(api.ErrUnknown, func(p *api.Policy) { p.Members[0].To = "nobody" })
	add(api.ErrTwice, func(p *api.Policy) { p.Withins[1] = p.Withins[0] })
	add(api.ErrNumber, func(p *api.Policy) { p.Rules[0].Level = 0.5 })
	add(api.ErrArg, func(p *api.Policy) { p.Rules[2].Cond = 5 })
	add(api.ErrMany, func(p *api.Policy) { p.Rules = slices.Repeat(p.Rules, 86) })
	add(api.ErrUnknown, func(p *api.Policy) { p.Excepts[1].Action = "never" })
	add(api.ErrTwice, func(p *api.Policy) { p.Excepts[1] = p.Excepts[0] })
	return append(l, wrong{long(t, api.MaxText+1), api.ErrLong})
}

func numbered(letter string, n int) []string {
	var l []string
	for i := range n {
		l = append(l, letter+strconv.Itoa(i))
	}
	return l
}

// What would mend a policy, or not touch what is wrong with it, is refused as well.
func TestAPolicyThatIsNotRightIsNotMended(t *testing.T) {
	for _, x := range wrongs(t) {
		for _, d := range []api.Delta{dropping(1), dropping(3), {}, paired(api.DeltaUnmember, "ann/nobody"), excepting(api.DeltaRestore, "bob/hall/never"), trusting(api.DeltaTrust, "eve", 1), named(api.DeltaRole, "new")} {
			wantRefused(t, x.p, d, x.want)
		}
	}
}

// The greatest list of the greatest policies is no matter of minutes.
func TestTheGreatestList(t *testing.T) {
	p := crowded(t)
	p.Rules = p.Rules[:0]
	var list []api.Delta
	for i := range api.MaxDeltas {
		list = append(list, ruling(api.Rule{Who: "s" + strconv.Itoa(i%64), What: "g" + strconv.Itoa(i%64), Actions: numbered("a", 16)}))
	}
	got, n, e := delta.Apply(p, list)
	if e != api.OK || n != 256 || len(got.Rules) != 256 || got.Rules[255].Who != "s63" {
		t.Errorf("%d rules, %d, %d", len(got.Rules), n, e)
	}
	wantStopped(t, got, append(list[:255:255], dropping(0)), 0, api.ErrMany)
}
