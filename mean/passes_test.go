package mean_test

import (
	"math"
	"testing"

	"gatehouse/api"
	"gatehouse/mean"
)

// floats in their order; those that are no number are beside it.
func floats() []float64 {
	return []float64{math.Inf(-1), -math.MaxFloat64, -1, -math.SmallestNonzeroFloat64, 0, math.SmallestNonzeroFloat64,
		0.25, math.Nextafter(0.5, 0), 0.5, math.Nextafter(0.5, 1), 1, math.Nextafter(1, 2), 1e300, math.Inf(1)}
}

func TestPassesByTheOrderOfFloats(t *testing.T) {
	for i, level := range floats() {
		for j, trust := range floats() {
			for cond, want := range map[int8]bool{api.Always: true, api.Above: j >= i, api.Below: j < i} {
				if got := mean.Passes(api.Rule{Cond: cond, Level: level}, trust); got != want {
					t.Errorf("condition %d, level %v, trust %v: %v", cond, level, trust, got)
				}
			}
		}
	}
}

func TestATrustThatIsJustTheLevel(t *testing.T) {
	for _, level := range floats() {
		if !mean.Passes(api.Rule{Cond: api.Above, Level: level}, level) || mean.Passes(api.Rule{Cond: api.Below, Level: level}, level) {
			t.Errorf("level and trust %v", level)
		}
	}
}

func TestZeroIsTheSameWithEitherSign(t *testing.T) {
	less := math.Copysign(0, -1)
	for _, level := range []float64{0, less} {
		for _, trust := range []float64{0, less} {
			if !mean.Passes(api.Rule{Cond: api.Above, Level: level}, trust) || mean.Passes(api.Rule{Cond: api.Below, Level: level}, trust) {
				t.Errorf("level %v, trust %v", level, trust)
			}
		}
	}
}

func TestWhatIsNoNumberPassesAlwaysAlone(t *testing.T) {
	none := math.NaN()
	for _, number := range append(floats(), none) {
		for _, c := range [][2]float64{{none, number}, {number, none}} {
			level, trust := c[0], c[1]
			if !mean.Passes(api.Rule{Cond: api.Always, Level: level}, trust) {
				t.Errorf("always, level %v, trust %v: no", level, trust)
			}
			if mean.Passes(api.Rule{Cond: api.Above, Level: level}, trust) || mean.Passes(api.Rule{Cond: api.Below, Level: level}, trust) {
				t.Errorf("above or below, level %v, trust %v: yes", level, trust)
			}
		}
	}
}

func TestAConditionThatIsNoneOfTheThree(t *testing.T) {
	for cond := math.MinInt8; cond <= math.MaxInt8; cond++ {
		known := int8(cond) == api.Always || int8(cond) == api.Above || int8(cond) == api.Below
		for _, level := range floats() {
			for _, trust := range floats() {
				if !known && mean.Passes(api.Rule{Cond: int8(cond), Level: level}, trust) {
					t.Fatalf("condition %d, level %v, trust %v: yes", cond, level, trust)
				}
			}
		}
	}
}

// The condition and the level count, nothing else of the rule.
func TestPassesAsksForTheConditionAlone(t *testing.T) {
	full := api.Rule{Deny: true, Who: "ann", What: "door", Actions: []string{"open"}, Cond: api.Above, Level: 0.5}
	if !mean.Passes(full, 0.5) || mean.Passes(full, 0.25) {
		t.Error("a rule that denies")
	}
}

// The policies whose trusts and levels are no numbers from 0 to 1 are not right, and read as others are.
func TestTrustsOfEveryKindInAPolicy(t *testing.T) {
	for _, c := range []struct {
		cond         int8
		level, trust float64
		want         bool
	}{
		{api.Above, 2, 2, true}, {api.Above, 2, 1, false}, {api.Below, 2, 1, true}, {api.Below, -1, 0, false}, {api.Above, -1, -1, true},
		{api.Above, math.NaN(), 1, false}, {api.Below, 1, math.NaN(), false}, {api.Always, math.NaN(), math.NaN(), true},
		{3, 0.5, 1, false}, {-1, 0.5, 1, false}, {api.Above, math.Inf(1), math.Inf(1), true}, {api.Below, math.Inf(1), 1e308, true},
	} {
		p := api.Policy{Actions: []string{"open"}, Subjects: []api.Subject{{Name: "ann", Trust: c.trust}}, Objects: []string{"door"}}
		p.Rules = []api.Rule{{Who: "ann", What: "door", Cond: c.cond, Level: c.level}}
		x := triple("ann/door/open")
		if mean.Matches(p, p.Rules[0], x) != c.want || mean.Allows(p, x) != c.want || (mean.Mask(p, "ann", "door") == 1) != c.want || (len(mean.Relation(p)) == 1) != c.want {
			t.Errorf("condition %d, level %v, trust %v: want %v", c.cond, c.level, c.trust, c.want)
		}
	}
}
