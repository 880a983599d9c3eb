package delta_test

import (
	"fmt"
	"reflect"
	"slices"
	"strings"
	"testing"

	"gatehouse/api"
	"gatehouse/delta"
	"gatehouse/mean"
	"gatehouse/valid"
)

// small is the policy of the chapter's examples.
const small = "action open, read; subject ann; role clerk; object door; member ann : clerk; allow clerk on door : *;"

// house has something in each list.
const house = `
action open, read, shut;
subject ann trust 0.25;
subject bob trust 0.5;
subject eve;
role clerk, guard, boss;
object door, hall, safe;
group doors, rooms, building;
member ann : clerk, guard;
member bob : guard;
inherit guard : clerk;
inherit boss : guard;
part door : doors;
part hall : rooms;
within doors : building;
within rooms : building;
allow clerk on doors : open, read;
deny guard on safe : *;
allow eve on building : shut above 0.5;
except ann on door : read;
except bob on hall : open;
`

func load(t *testing.T, text string) api.Policy {
	t.Helper()
	p, err := valid.Load(text)
	if err != nil {
		t.Fatal(err)
	}
	return p
}

// triple is one written as "ann/door/open"; a name may be empty.
func triple(text string) api.Triple {
	names := strings.Split(text, "/")
	return api.Triple{Subject: names[0], Object: names[1], Action: names[2]}
}

// pair is one written as "ann/clerk".
func pair(text string) api.Pair {
	from, to, _ := strings.Cut(text, "/")
	return api.Pair{From: from, To: to}
}

func named(kind int8, name string) api.Delta { return api.Delta{Kind: kind, Name: name} }

func trusting(kind int8, name string, trust float64) api.Delta {
	return api.Delta{Kind: kind, Name: name, Trust: trust}
}

func paired(kind int8, text string) api.Delta { return api.Delta{Kind: kind, Pair: pair(text)} }

func excepting(kind int8, text string) api.Delta { return api.Delta{Kind: kind, Triple: triple(text)} }

func ruling(r api.Rule) api.Delta { return api.Delta{Kind: api.DeltaAllow, Rule: r} }

func dropping(at int) api.Delta { return api.Delta{Kind: api.DeltaDrop, At: at} }

// plain has nil for each list without anything, as these are the same.
func plain(p api.Policy) api.Policy {
	v := reflect.ValueOf(&p).Elem()
	for i := range v.NumField() {
		if v.Field(i).Len() == 0 {
			v.Field(i).SetZero()
		}
	}
	p.Rules = slices.Clone(p.Rules)
	for i, r := range p.Rules {
		if len(r.Actions) == 0 {
			p.Rules[i].Actions = nil
		}
	}
	return p
}

func same(p, q api.Policy) bool { return reflect.DeepEqual(plain(p), plain(q)) }

func empty(p api.Policy) bool { return same(p, api.Policy{}) }

func code(p api.Policy) api.Errno {
	e, _, _, _ := valid.Tell(valid.Check(p))
	return e
}

// told is something as it is told where a test fails, cut off where it is long.
func told(thing any) string {
	text := fmt.Sprintf("%+v", thing)
	if len(text) > 400 {
		return strings.ToValidUTF8(text[:400], "?") + " .."
	}
	return text
}

// wantOne: the delta makes a policy of another, and so does a list of that delta alone.
func wantOne(t *testing.T, p api.Policy, d api.Delta, want api.Policy) {
	t.Helper()
	if got, e := delta.One(p, d); e != api.OK || !same(got, want) {
		t.Errorf("One(%s) = %s, %d, want %s", told(d), told(got), e, told(want))
	}
	if got, n, e := delta.Apply(p, []api.Delta{d}); e != api.OK || n != 1 || !same(got, want) {
		t.Errorf("Apply(%s) = %s, %d, %d, want %s", told(d), told(got), n, e, told(want))
	}
}

// wantRefused: the delta is refused, and so is a list of that delta alone.
func wantRefused(t *testing.T, p api.Policy, d api.Delta, want api.Errno) {
	t.Helper()
	if got, e := delta.One(p, d); e != want || !empty(got) {
		t.Errorf("One(%s) = %s, %d, want %d", told(d), told(got), e, want)
	}
	if got, n, e := delta.Apply(p, []api.Delta{d}); e != want || n != 0 || !empty(got) {
		t.Errorf("Apply(%s) = %s, %d, %d, want %d", told(d), told(got), n, e, want)
	}
}

func wantApplied(t *testing.T, p api.Policy, list []api.Delta, want api.Policy) {
	t.Helper()
	if got, n, e := delta.Apply(p, list); e != api.OK || n != len(list) || !same(got, want) {
		t.Errorf("Apply(%s) = %s, %d, %d, want %s", told(list), told(got), n, e, told(want))
	}
}

func wantStopped(t *testing.T, p api.Policy, list []api.Delta, at int, want api.Errno) {
	t.Helper()
	if got, n, e := delta.Apply(p, list); e != want || n != at || !empty(got) {
		t.Errorf("Apply(%s) = %s, %d, %d, want %d, %d", told(list), told(got), n, e, at, want)
	}
}

func TestTheExamplesOfOne(t *testing.T) {
	p := load(t, small)
	bob, twoRules := load(t, small+"subject bob trust 0.5;"), load(t, small+"deny ann on door : read;")
	noRules, mistrusted := p, load(t, strings.Replace(small, "subject ann;", "subject ann trust 0;", 1))
	noRules.Rules = nil
	wantOne(t, p, trusting(api.DeltaSubject, "bob", 0.5), bob)
	wantRefused(t, p, trusting(api.DeltaSubject, "clerk", 1), api.ErrTwice)
	wantRefused(t, p, trusting(api.DeltaSubject, "", 1), api.ErrName)
	wantRefused(t, p, trusting(api.DeltaSubject, "bob", 2), api.ErrNumber)
	wantOne(t, p, dropping(1), noRules)
	wantRefused(t, p, dropping(0), api.ErrNoRule)
	wantRefused(t, p, dropping(2), api.ErrNoRule)
	wantRefused(t, p, paired(api.DeltaMember, "ann/clerk"), api.ErrTwice)
	wantRefused(t, p, paired(api.DeltaMember, "ann/bob"), api.ErrUnknown)
	wantRefused(t, p, paired(api.DeltaUnmember, "ann/bob"), api.ErrNoPair)
	wantOne(t, p, trusting(api.DeltaTrust, "ann", 0), mistrusted)
	wantRefused(t, p, trusting(api.DeltaTrust, "clerk", 0), api.ErrUnknown)
	wantRefused(t, p, trusting(api.DeltaTrust, "ann", 0.1234567891), api.ErrNumber)
	wantOne(t, p, ruling(api.Rule{Deny: true, Who: "ann", What: "door", Actions: []string{"read"}}), twoRules)
	wantRefused(t, p, api.Delta{}, api.ErrKind)
}

func TestTheExamplesOfApply(t *testing.T) {
	p := load(t, small)
	role, line := named(api.DeltaRole, "r"), paired(api.DeltaInherit, "clerk/r")
	wantApplied(t, p, []api.Delta{role, line}, load(t, small+"role r; inherit clerk : r;"))
	wantStopped(t, p, []api.Delta{line, role}, 0, api.ErrUnknown)
	wantStopped(t, p, []api.Delta{role, excepting(api.DeltaRestore, "ann/door/open")}, 1, api.ErrNoExcept)
	wantApplied(t, p, nil, p)
}

func TestTheExamplesOfRevoke(t *testing.T) {
	p := load(t, small)
	want := load(t, small+"except ann on door : open;")
	wantRevoked(t, p, "ann/door/open", want)
	wantRevoked(t, want, "ann/door/open", want)
	wantNotRevoked(t, p, "clerk/door/open", api.ErrUnknown)
	wantNotRevoked(t, p, "ann/door/shut", api.ErrUnknown)
}

func TestTheExampleOfAPolicyThatIsNotRight(t *testing.T) {
	p := api.Policy{Actions: []string{"open", "open"}}
	wantRefused(t, p, named(api.DeltaRole, "r"), api.ErrTwice)
	wantStopped(t, p, nil, 0, api.ErrTwice)
	wantNotRevoked(t, p, "ann/door/open", api.ErrTwice)
}

// The document's promise W2 speaks of what a revoke leaves of the relation.
func TestTheRelationOfTheHouse(t *testing.T) {
	p := load(t, house)
	want := []api.Triple{triple("ann/door/open"), triple("bob/door/open"), triple("bob/door/read"), triple("eve/door/shut"), triple("eve/hall/shut")}
	if got := mean.Relation(p); !slices.Equal(got, want) {
		t.Errorf("the house allows %v", got)
	}
}
