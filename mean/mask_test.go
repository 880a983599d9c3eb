package mean_test

import (
	"slices"
	"strconv"
	"testing"

	"gatehouse/api"
	"gatehouse/mean"
)

// manyActions are a0, a1 and so on.
func manyActions(n int) []string {
	var l []string
	for k := range n {
		l = append(l, "a"+strconv.Itoa(k))
	}
	return l
}

func TestEachActionHasItsBit(t *testing.T) {
	for _, n := range []int{1, 2, 15, 16, 17, 18, 40, 100} {
		p := api.Policy{Actions: manyActions(n), Subjects: subjects("ann"), Objects: []string{"door"}}
		for k, action := range p.Actions {
			p.Rules = []api.Rule{rule("ann", "door", action)}
			var want uint16
			if k < 16 {
				want = uint16(1) << k
			}
			if got := mean.Mask(p, "ann", "door"); got != want {
				t.Errorf("%d actions, the action %d: %b, want %b", n, k, got, want)
			}
			if !mean.Allows(p, api.Triple{Subject: "ann", Object: "door", Action: action}) {
				t.Errorf("%d actions: the action %d is not allowed", n, k)
			}
		}
	}
}

func TestAMaskOfAllActions(t *testing.T) {
	for n, want := range map[int]uint16{0: 0, 1: 1, 2: 3, 3: 7, 15: 0x7fff, 16: 0xffff, 17: 0xffff, 64: 0xffff, 1000: 0xffff} {
		p := api.Policy{Actions: manyActions(n), Subjects: subjects("ann"), Objects: []string{"door"}, Rules: []api.Rule{rule("ann", "door", "")}}
		if got := mean.Mask(p, "ann", "door"); got != want {
			t.Errorf("%d actions: %x, want %x", n, got, want)
		}
		if got := len(mean.Relation(p)); got != n {
			t.Errorf("%d actions: %d triples", n, got)
		}
		p.Rules = append(p.Rules, denying(rule("ann", "door", "")))
		if got := mean.Mask(p, "ann", "door"); got != 0 {
			t.Errorf("%d actions, all denied: %x", n, got)
		}
	}
}

func TestMaskByRulesAndExcepts(t *testing.T) {
	p := house()
	p.Rules = []api.Rule{rule("staff", "floor", "open write"), rule("guard", "safe", "read"), denying(rule("ann", "door", "open")), {Who: "cat", What: "lamp", Actions: []string{"read"}, Cond: api.Above, Level: 1}}
	p.Excepts = triples("ann/safe/write cat/lamp/open")
	for pair, want := range map[[2]string]uint16{
		{"ann", "door"}: 4, {"ann", "safe"}: 3, {"ann", "lamp"}: 5, {"bob", "door"}: 5, {"bob", "safe"}: 5, {"bob", "lamp"}: 5,
		{"cat", "door"}: 5, {"cat", "safe"}: 5, {"cat", "lamp"}: 6, {"guard", "safe"}: 0, {"ann", "floor"}: 0, {"dan", "door"}: 0, {"ann", "gate"}: 0,
		{"door", "ann"}: 0, {"", ""}: 0, {"ann", ""}: 0, {"", "door"}: 0,
	} {
		if got := mean.Mask(p, pair[0], pair[1]); got != want {
			t.Errorf("Mask of %v: %b, want %b", pair, got, want)
		}
	}
}

// A name that is twice in Actions has a bit at each of its places.
func TestAnActionTwice(t *testing.T) {
	p := api.Policy{Actions: []string{"open", "read", "open", "write", "read", "open"}, Subjects: subjects("ann"), Objects: []string{"door"}}
	for _, c := range []struct {
		rules   []api.Rule
		excepts string
		want    uint16
	}{
		{[]api.Rule{rule("ann", "door", "open")}, "", 0b100101},
		{[]api.Rule{rule("ann", "door", "read read")}, "", 0b010010},
		{[]api.Rule{rule("ann", "door", "")}, "", 0b111111},
		{[]api.Rule{rule("ann", "door", ""), denying(rule("ann", "door", "open"))}, "", 0b011010},
		{[]api.Rule{rule("ann", "door", "")}, "ann/door/read", 0b101101},
	} {
		p.Rules, p.Excepts = c.rules, triples(c.excepts)
		if got := mean.Mask(p, "ann", "door"); got != c.want {
			t.Errorf("%v: %b, want %b", c.rules, got, c.want)
		}
	}
	p.Actions = slices.Repeat([]string{"open"}, 20)
	p.Rules, p.Excepts = []api.Rule{rule("ann", "door", "open")}, nil
	if got := mean.Mask(p, "ann", "door"); got != 0xffff {
		t.Errorf("one action twenty times: %x", got)
	}
	p.Actions = append(slices.Repeat([]string{"open"}, 16), "read", "read")
	p.Rules = []api.Rule{rule("ann", "door", "read")}
	if got := mean.Mask(p, "ann", "door"); got != 0 {
		t.Errorf("an action behind the first sixteen: %x", got)
	}
}
