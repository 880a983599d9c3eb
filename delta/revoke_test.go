package delta_test

import (
	"slices"
	"testing"

	"gatehouse/api"
	"gatehouse/delta"
	"gatehouse/mean"
)

func wantRevoked(t *testing.T, p api.Policy, text string, want api.Policy) {
	t.Helper()
	if got, e := delta.Revoke(p, triple(text)); e != api.OK || !same(got, want) {
		t.Errorf("Revoke(%s) = %s, %d, want %s", text, told(got), e, told(want))
	}
}

func wantNotRevoked(t *testing.T, p api.Policy, text string, want api.Errno) {
	t.Helper()
	if got, e := delta.Revoke(p, triple(text)); e != want || !empty(got) {
		t.Errorf("Revoke(%s) = %s, %d, want %d", text, told(got), e, want)
	}
}

func TestRevokeInTheHouse(t *testing.T) {
	p := load(t, house)
	for _, s := range []string{"ann", "bob", "eve"} {
		for _, o := range []string{"door", "hall", "safe"} {
			for _, a := range []string{"open", "read", "shut"} {
				text := s + "/" + o + "/" + a
				want := p
				if !slices.Contains(p.Excepts, triple(text)) {
					want = load(t, house+"except "+s+" on "+o+" : "+a+";")
				}
				wantRevoked(t, p, text, want)
				wantRevoked(t, want, text, want)
			}
		}
	}
}

func TestRevokeWithoutAName(t *testing.T) {
	p := load(t, house)
	for _, text := range []string{"nobody/door/open", "clerk/door/open", "door/door/open", "open/door/open", "/door/open",
		"ann/nothing/open", "ann/doors/open", "ann/ann/open", "ann//open",
		"ann/door/never", "ann/door/ann", "ann/door/doors", "ann/door/", "//", "door/ann/open", "a\n/door/open"} {
		wantNotRevoked(t, p, text, api.ErrUnknown)
	}
	wantNotRevoked(t, api.Policy{}, "//", api.ErrUnknown)
	wantNotRevoked(t, api.Policy{}, "ann/door/open", api.ErrUnknown)
	wantNotRevoked(t, crowded(t), "s0/o1/never", api.ErrUnknown)
}

func TestRevokeOfAPolicyThatIsNotRight(t *testing.T) {
	for _, x := range wrongs(t) {
		for _, text := range []string{"ann/door/open", "ann/door/read", "bob/hall/never", "nobody/door/open", "//"} {
			wantNotRevoked(t, x.p, text, x.want)
		}
	}
}

// A name may stand in all three spaces.
func TestRevokeOfOneNameInThreeSpaces(t *testing.T) {
	const text = "action x; subject x; object x; allow x on x : x;"
	wantRevoked(t, load(t, text), "x/x/x", load(t, text+"except x on x : x;"))
	if q, e := delta.Revoke(load(t, text), triple("x/x/x")); e != api.OK || len(mean.Relation(q)) != 0 {
		t.Errorf("%v, %d", mean.Relation(q), e)
	}
}
