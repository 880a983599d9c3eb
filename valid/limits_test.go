package valid_test

import (
	"slices"
	"strings"
	"testing"

	"gatehouse/api"
	"gatehouse/canon"
	"gatehouse/valid"
)

// fullOfPairs has as many pairs of each list as there may be: s1 to s4 with each of 64 roles, and so on.
func fullOfPairs() []api.Decl {
	roles, groups := numbered("r", 64), numbered("g", 64)
	decls := []api.Decl{
		{Kind: 2, Names: words(numbered("s", 64)...)},
		{Kind: 3, Names: words(roles...)},
		{Kind: 4, Names: words(numbered("o", 64)...)},
		{Kind: 5, Names: words(groups...)},
	}
	for i, n := range []string{"1", "2", "3", "4"} {
		decls = append(decls,
			api.Decl{Kind: 6, Head: word("s" + n), Names: words(roles...)},
			api.Decl{Kind: 7, Head: word(roles[i*20]), Names: words(roles...)},
			api.Decl{Kind: 8, Head: word("o" + n), Names: words(groups...)},
			api.Decl{Kind: 9, Head: word(groups[i*20]), Names: words(groups...)})
	}
	return decls
}

// fullOfExcepts has as many excepts as there may be: s1 to s16 with a1 to a16 on o1.
func fullOfExcepts() []api.Decl {
	actions := words(numbered("a", 16)...)
	decls := []api.Decl{{Kind: 1, Names: actions}, {Kind: 2, Names: words(numbered("s", 16)...)}, {Kind: 4, Names: words("o1", "o2")}}
	for _, s := range numbered("s", 16) {
		decls = append(decls, api.Decl{Kind: 12, Head: word(s), On: word("o1"), Names: actions})
	}
	return decls
}

func TestAsManyNamesAsThereMayBe(t *testing.T) {
	for kind, limit := range map[int8]int{1: 16, 2: 64, 3: 64, 4: 64, 5: 64} {
		list := words(numbered("n", limit+2)...)
		var apart []api.Decl
		for _, w := range list {
			apart = append(apart, api.Decl{Kind: kind, Line: 1, Col: 1, Names: []api.Word{w}})
		}
		for _, decls := range [][]api.Decl{{{Kind: kind, Names: list[:limit]}}, apart[:limit]} {
			p, err := valid.Build(decls)
			if n := len(p.Actions) + len(p.Subjects) + len(p.Roles) + len(p.Objects) + len(p.Groups); err != nil || n != limit {
				t.Errorf("Kind %d: %d names, %v", kind, n, err)
			}
		}
		for _, n := range []int{limit + 1, limit + 2} {
			wantFault(t, []api.Decl{{Kind: kind, Names: list[:n]}}, fault(api.ErrMany, list[limit]))
			wantFault(t, apart[:n], fault(api.ErrMany, list[limit]))
		}
	}
}

// Each kind is counted by itself, also where two have one space.
func TestAsManyOfAllKindsAsThereMayBe(t *testing.T) {
	decls := append(fullOfPairs(), api.Decl{Kind: 1, Names: words(numbered("a", 16)...)})
	for i := range api.MaxRules {
		decls = append(decls, api.Decl{Kind: 10 + int8(i%2), Head: word("s1"), On: word("g2"), Names: words("a1", "a16")})
	}
	decls = append(decls, fullOfExcepts()[3:]...)
	p, err := valid.Build(decls)
	if err != nil {
		t.Fatal(err)
	}
	counts := []int{len(p.Actions), len(p.Subjects), len(p.Roles), len(p.Objects), len(p.Groups), len(p.Members), len(p.Inherits), len(p.Parts), len(p.Withins), len(p.Rules), len(p.Excepts)}
	if !slices.Equal(counts, []int{16, 64, 64, 64, 64, 256, 256, 256, 256, 256, 256}) {
		t.Errorf("the lists have %v things", counts)
	}
	if err := valid.Check(p); err != nil {
		t.Error(err)
	}
}

func TestOnePairTooMany(t *testing.T) {
	for kind, head := range map[int8]string{6: "s5", 7: "r2", 8: "o5", 9: "g2"} {
		w := at(map[int8]string{6: "r64", 7: "r64", 8: "g64", 9: "g64"}[kind], 3, 3)
		wantFault(t, append(fullOfPairs(), api.Decl{Kind: kind, Head: word(head), Names: []api.Word{w}}), fault(api.ErrMany, w))
	}
}

func TestOneRuleTooMany(t *testing.T) {
	decls := base()
	for i := range api.MaxRules + 1 {
		decls = append(decls, api.Decl{Kind: 11 - int8(i%2), Head: at("ann", 2, i), On: at("door", 3, i), All: true})
	}
	last := len(decls) - 1
	if p, err := valid.Build(decls[:last]); err != nil || len(p.Rules) != 256 {
		t.Errorf("%d rules, %v", len(p.Rules), err)
	}
	wantFault(t, decls, fault(api.ErrMany, at("ann", 2, 256)))
}

func TestOneExceptTooMany(t *testing.T) {
	if p, err := valid.Build(fullOfExcepts()); err != nil || len(p.Excepts) != 256 {
		t.Errorf("%d excepts, %v", len(p.Excepts), err)
	}
	w := at("a3", 4, 4)
	wantFault(t, append(fullOfExcepts(), api.Decl{Kind: 12, Head: word("s1"), On: word("o2"), Names: []api.Word{w}}), fault(api.ErrMany, w))
}

// A rule may have all sixteen actions; a seventeenth name is one of them again, or none.
func TestARuleOfSixteenActions(t *testing.T) {
	actions := words(numbered("a", 16)...)
	decls := []api.Decl{{Kind: 1, Names: actions}, {Kind: 2, Names: words("s")}, {Kind: 4, Names: words("o")}, {Kind: 10, Head: word("s"), On: word("o"), Names: actions}}
	if p, err := valid.Build(decls); err != nil || len(p.Rules[0].Actions) != 16 {
		t.Error(p, err)
	}
	for text, code := range map[string]api.Errno{"a16": api.ErrTwice, "a1": api.ErrTwice, "a17": api.ErrUnknown} {
		w := at(text, 1, 1)
		decls[3].Names = append(slices.Clone(actions), w)
		wantFault(t, decls, fault(code, w))
	}
}

// ofLength is a right policy, were its text not of that length: rules, and roles that fill up what is missing.
func ofLength(t *testing.T, length int) api.Policy {
	t.Helper()
	p := api.Policy{Subjects: []api.Subject{{Name: "s", Trust: 1}}, Objects: []string{"o"}}
	for _, a := range numbered("a", 16) {
		p.Actions = append(p.Actions, a+strings.Repeat("x", 32-len(a)))
	}
	for length-textLength(t, p) > 1000 {
		p.Rules = append(p.Rules, api.Rule{Who: "s", What: "o", Actions: p.Actions})
	}
	for n := 10; length > textLength(t, p); n++ {
		missing := length - textLength(t, p) - len("role ;\n")
		size := min(missing, 32)
		if missing > 32 && missing < 50 {
			size = 15 // so that there is room for one more role
		}
		p.Roles = append(p.Roles, "r"+strings.Repeat("x", size-3)+string(rune('0'+n/10))+string(rune('0'+n%10)))
	}
	if n := textLength(t, p); n != length {
		t.Fatalf("the text has %d bytes, not %d", n, length)
	}
	return p
}

func textLength(t *testing.T, p api.Policy) int {
	t.Helper()
	text, e := canon.Text(p)
	if e != api.OK {
		t.Fatal(e)
	}
	return len(text)
}

func TestThePolicysOwnText(t *testing.T) {
	for _, length := range []int{api.MaxText - 1, api.MaxText} {
		p := ofLength(t, length)
		wantPolicy(t, canon.Decls(p), p)
		if err := valid.Check(p); err != nil {
			t.Errorf("%d bytes: %v", length, err)
		}
		text, _ := canon.Text(p)
		wantLoaded(t, text, p)
	}
	for _, length := range []int{api.MaxText + 1, api.MaxText + 2, 100000} {
		p := ofLength(t, length)
		wantFault(t, canon.Decls(p), api.Fault{Code: api.ErrLong})
		if f := faultOf(t, valid.Check(p)); f != (api.Fault{Code: api.ErrLong}) {
			t.Errorf("%d bytes: %v", length, &f)
		}
	}
}

// The length comes last of all.
func TestAFaultAheadOfTheLength(t *testing.T) {
	decls := canon.Decls(ofLength(t, api.MaxText+1))
	w := at("nobody", 3, 4)
	wantFault(t, append(decls, api.Decl{Kind: 10, Head: w, On: word("o")}), fault(api.ErrUnknown, w))
	w.Text = "s"
	wantFault(t, append(decls, api.Decl{Kind: 3, Names: []api.Word{w}}), fault(api.ErrTwice, w))
}

// A text that is short enough may say a policy whose own text is not: it has a line for each pair.
func TestAShortTextOfALongPolicy(t *testing.T) {
	quotes := func(n int) string { return strings.Repeat(`\"`, 30) + string(rune('A'+n/8)) + string(rune('A'+n%8)) }
	var roles []string
	for i := range 64 {
		roles = append(roles, `"`+quotes(i)+`"`)
	}
	all := strings.Join(roles, ",")
	text := "role " + all + ";"
	for i := range 4 {
		text += "inherit " + roles[i] + ":" + all + ";"
	}
	p, err := valid.Load(text)
	if err != nil || len(p.Inherits) != 256 {
		t.Fatalf("%d pairs, %v", len(p.Inherits), err)
	}
	for i := range 4 {
		subject := `"subject` + quotes(i)[14:] + `"`
		text += "subject " + subject + ";member " + subject + ":" + all + ";"
	}
	if len(text) > api.MaxText {
		t.Fatalf("the text has %d bytes", len(text))
	}
	wantNotLoaded(t, text, api.Fault{Code: api.ErrLong})
}
