package valid_test

import (
	"math"
	"slices"
	"testing"

	"gatehouse/api"
	"gatehouse/valid"
)

// mistake is a declaration behind base that has one fault; declared: one of the first way.
type mistake struct {
	d        api.Decl
	declared bool
	want     api.Fault
}

func declared(code api.Errno, d api.Decl, at api.Word) mistake {
	return mistake{d, true, fault(code, at)}
}

func used(code api.Errno, d api.Decl, at api.Word) mistake {
	return mistake{d, false, fault(code, at)}
}

// kindMistakes has kinds that there are not.
func kindMistakes() []mistake {
	var l []mistake
	for k := math.MinInt8; k <= math.MaxInt8; k++ {
		if k < 1 || k > 12 {
			d := api.Decl{Kind: int8(k), Line: 4, Col: -2, Head: at("ann", 1, 1), On: at("ann", 2, 2), Names: words("", "ann")}
			l = append(l, declared(api.ErrArg, d, at("", 4, -2)))
		}
	}
	return l
}

// nameMistakes has names that can't be declared, each behind one that can.
func nameMistakes() []mistake {
	var l []mistake
	for kind := int8(1); kind <= 5; kind++ {
		for _, s := range noNames() {
			w := at(s, 3, 9)
			l = append(l, declared(api.ErrName, api.Decl{Kind: kind, Line: 8, Col: 8, Names: []api.Word{at("new", 1, 1), w, at("", 5, 5)}}, w))
		}
		twice := at("new", 2, 4)
		l = append(l, declared(api.ErrTwice, api.Decl{Kind: kind, Names: []api.Word{at("new", 1, 1), twice, twice}}, twice))
	}
	for text, kinds := range map[string][]int8{"open": {1}, "bob": {2, 3}, "clerk": {2, 3}, "door": {4, 5}, "building": {4, 5}, "ann": {1, 2, 3, 4, 5}} {
		for _, kind := range kinds {
			w := at(text, 6, 60)
			l = append(l, declared(api.ErrTwice, api.Decl{Kind: kind, Names: []api.Word{at("new", 1, 1), w}}, w))
		}
	}
	for _, x := range noNumbers() {
		w := at("new", 2, 2)
		l = append(l, declared(api.ErrNumber, api.Decl{Kind: api.DeclSubject, Names: []api.Word{w, at("newer", 3, 3)}, Level: x}, w))
	}
	return l
}

// pairKinds are what a pair's kind asks for: who may be its From and its To (of base), and who may not.
func pairKinds() map[int8][4][]string {
	noSubject := []string{"clerk", "guard", "door", "open", "doors", "nobody", ""}
	noRole := []string{"ann", "bob", "door", "open", "doors", "nobody", ""}
	noObject := []string{"doors", "building", "open", "bob", "clerk", "nobody", ""}
	noGroup := []string{"door", "ann", "open", "bob", "clerk", "nobody", ""}
	subjects, roles, objects, groups := []string{"ann", "bob"}, []string{"clerk", "guard"}, []string{"door", "ann"}, []string{"doors", "building"}
	return map[int8][4][]string{
		api.DeclMember:  {subjects, roles, noSubject, noRole},
		api.DeclInherit: {roles, roles, noRole, noRole},
		api.DeclPart:    {objects, groups, noObject, noGroup},
		api.DeclWithin:  {groups, groups, noGroup, noGroup},
	}
}

func pairMistakes() []mistake {
	var l []mistake
	for kind, x := range pairKinds() {
		from, to := at(x[0][0], 1, 1), []api.Word{at(x[1][0], 2, 1), at(x[1][1], 2, 2)}
		for _, s := range x[2] {
			w := at(s, 5, 6)
			l = append(l, used(api.ErrUnknown, api.Decl{Kind: kind, Head: w, Names: to}, w))
			l = append(l, used(api.ErrUnknown, api.Decl{Kind: kind, Head: w}, w))
		}
		for _, s := range x[3] {
			w := at(s, 5, 6)
			l = append(l, used(api.ErrUnknown, api.Decl{Kind: kind, Head: from, Names: []api.Word{to[0], to[1], w, w}}, w))
		}
		w := at(to[1].Text, 9, 9)
		l = append(l, used(api.ErrTwice, api.Decl{Kind: kind, Head: from, Names: []api.Word{to[0], to[1], w, w}}, w))
	}
	return l
}

func ruleMistakes() []mistake {
	var l []mistake
	for _, kind := range []int8{api.DeclAllow, api.DeclDeny} {
		good := api.Decl{Kind: kind, Head: at("ann", 1, 1), On: at("door", 1, 2), Names: words("ann", "open")}
		add := func(code api.Errno, w api.Word, change func(d *api.Decl)) {
			d := good
			change(&d)
			l = append(l, used(code, d, w))
		}
		for _, s := range []string{"door", "doors", "open", "nobody", ""} {
			w := at(s, 5, 6)
			add(api.ErrUnknown, w, func(d *api.Decl) { d.Head = w })
			add(api.ErrUnknown, w, func(d *api.Decl) { d.Head, d.All = w, true })
		}
		for _, s := range []string{"bob", "clerk", "open", "nobody", ""} {
			w := at(s, 5, 6)
			add(api.ErrUnknown, w, func(d *api.Decl) { d.On = w })
			add(api.ErrUnknown, w, func(d *api.Decl) { d.On, d.All = w, true })
		}
		for _, s := range []string{"bob", "clerk", "door", "doors", "nobody", ""} {
			w := at(s, 5, 6)
			add(api.ErrUnknown, w, func(d *api.Decl) { d.Names = append(words("open"), w, w) })
		}
		w := at("open", 5, 6)
		add(api.ErrTwice, w, func(d *api.Decl) { d.Names = append(words("open", "ann"), w, w) })
		for c := math.MinInt8; c <= math.MaxInt8; c++ {
			if c < 0 || c > 2 {
				add(api.ErrArg, good.Head, func(d *api.Decl) { d.Cond = int8(c) })
				add(api.ErrArg, good.Head, func(d *api.Decl) { d.Cond, d.All = int8(c), true })
			}
		}
		for _, x := range noNumbers() {
			for cond := api.Always; cond <= api.Below; cond++ {
				add(api.ErrNumber, good.Head, func(d *api.Decl) { d.Cond, d.Level = cond, x })
			}
		}
		for _, x := range []float64{0.5, 1, 0.000000001} {
			add(api.ErrNumber, good.Head, func(d *api.Decl) { d.Level, d.Names = x, nil })
		}
	}
	return l
}

func exceptMistakes() []mistake {
	good := api.Decl{Kind: api.DeclExcept, Head: at("ann", 1, 1), On: at("door", 1, 2), Names: words("ann", "open")}
	var l []mistake
	add := func(code api.Errno, w api.Word, change func(d *api.Decl)) {
		d := good
		change(&d)
		l = append(l, used(code, d, w))
	}
	for _, s := range []string{"clerk", "guard", "door", "doors", "open", "nobody", ""} {
		w := at(s, 5, 6)
		add(api.ErrUnknown, w, func(d *api.Decl) { d.Head = w })
		add(api.ErrUnknown, w, func(d *api.Decl) { d.Head, d.Names = w, nil })
	}
	for _, s := range []string{"doors", "building", "bob", "clerk", "open", "nobody", ""} {
		w := at(s, 5, 6)
		add(api.ErrUnknown, w, func(d *api.Decl) { d.On = w })
		add(api.ErrUnknown, w, func(d *api.Decl) { d.On, d.Names = w, nil })
	}
	for _, s := range []string{"bob", "clerk", "door", "doors", "nobody", ""} {
		w := at(s, 5, 6)
		add(api.ErrUnknown, w, func(d *api.Decl) { d.Names = append(words("open"), w, w) })
		add(api.ErrUnknown, w, func(d *api.Decl) { d.Names, d.All = append(words("open"), w, w), true })
	}
	w := at("open", 5, 6)
	add(api.ErrTwice, w, func(d *api.Decl) { d.Names = append(words("open", "ann"), w, w) })
	return l
}

func mistakes() []mistake {
	return slices.Concat(kindMistakes(), nameMistakes(), pairMistakes(), ruleMistakes(), exceptMistakes())
}

func TestEachFaultByItself(t *testing.T) {
	for _, m := range mistakes() {
		wantFault(t, with(m.d), m.want)
	}
}

// Of two faults the first one counts, but what is declared comes ahead of what is used.
func TestTwoFaultsAtOnce(t *testing.T) {
	all := slices.Concat(kindMistakes()[125:131], nameMistakes(), pairMistakes(), exceptMistakes())
	for _, m := range ruleMistakes() {
		if c := m.d.Cond; c >= -1 && c <= 3 {
			all = append(all, m)
		}
	}
	for _, first := range all {
		for _, second := range all {
			want := first.want
			if second.declared && !first.declared {
				want = second.want
			}
			_, err := valid.Build(with(first.d, second.d))
			if f := faultOf(t, err); f != want {
				t.Fatalf("Build of %v and %v = %v, want %v", first.d, second.d, &f, &want)
			}
		}
	}
}

func TestATwiceUsedThing(t *testing.T) {
	again := at("clerk", 8, 8)
	for kind, x := range pairKinds() {
		again.Text = x[1][0]
		one := api.Decl{Kind: kind, Head: word(x[0][0]), Names: words(x[1][0])}
		other := api.Decl{Kind: kind, Head: word(x[0][1]), Names: words(x[1]...)}
		wantFault(t, with(one, other, api.Decl{Kind: kind, Head: word(x[0][0]), Names: []api.Word{word(x[1][1]), again}}), fault(api.ErrTwice, again))
	}
	again.Text = "open"
	one := api.Decl{Kind: api.DeclExcept, Head: word("ann"), On: word("door"), Names: words("open")}
	others := []api.Decl{one, {Kind: api.DeclExcept, Head: word("bob"), On: word("door"), Names: words("open")}, {Kind: api.DeclExcept, Head: word("ann"), On: word("ann"), Names: words("open")}}
	wantFault(t, append(with(others...), api.Decl{Kind: api.DeclExcept, Head: word("ann"), On: word("door"), Names: []api.Word{word("ann"), again}}), fault(api.ErrTwice, again))
	// A pair is asked for in its own list alone, and a rule may stand there twice.
	r := api.Decl{Kind: api.DeclAllow, Head: word("ann"), On: word("door"), Names: words("open")}
	if _, err := valid.Build([]api.Decl{r, {Kind: 3, Names: words("r")}, {Kind: 5, Names: words("r")}, {Kind: 7, Head: word("r"), Names: words("r")}, {Kind: 9, Head: word("r"), Names: words("r")},
		{Kind: 1, Names: words("open")}, {Kind: 2, Names: words("ann")}, {Kind: 4, Names: words("door")}, r, r}); err != nil {
		t.Error(err)
	}
}

// step mends what is wrong first; want is the fault that is first by then.
type step struct {
	mend func(d *api.Decl)
	want api.Fault
}

// wantOneByOne mends the last of the declarations step by step, until it is right.
func wantOneByOne(t *testing.T, decls []api.Decl, steps []step) {
	t.Helper()
	d := &decls[len(decls)-1]
	for _, s := range steps {
		if s.mend != nil {
			s.mend(d)
		}
		if s.want.Code != api.OK {
			wantFault(t, decls, s.want)
		} else if _, err := valid.Build(decls); err != nil {
			t.Errorf("Build(%v): %v", decls, err)
		}
	}
}

func TestTheOrderOfFaultsInAPair(t *testing.T) {
	decls := append(fullOfPairs(), api.Decl{Kind: 6, Line: 1, Head: at("nobody", 1, 2), Names: []api.Word{at("nothing", 1, 3), at("r1", 1, 4), at("r64", 1, 5), at("nothing", 1, 6)}})
	wantOneByOne(t, decls, []step{
		{nil, fault(api.ErrUnknown, at("nobody", 1, 2))},
		{func(d *api.Decl) { d.Head.Text = "s1" }, fault(api.ErrUnknown, at("nothing", 1, 3))},
		{func(d *api.Decl) { d.Names[0].Text = "r64" }, fault(api.ErrTwice, at("r64", 1, 3))},
		{func(d *api.Decl) { d.Head.Text = "s5" }, fault(api.ErrMany, at("r64", 1, 3))},
		{func(d *api.Decl) { d.Names = d.Names[3:] }, fault(api.ErrUnknown, at("nothing", 1, 6))},
		{func(d *api.Decl) { d.Names = nil }, api.Fault{}},
	})
}

func TestTheOrderOfFaultsInARule(t *testing.T) {
	decls := base()
	for range api.MaxRules {
		decls = append(decls, api.Decl{Kind: 10, Head: word("ann"), On: word("door")})
	}
	decls = append(decls, api.Decl{Kind: 11, Line: 1, Head: at("nobody", 1, 2), On: at("nothing", 1, 3), Names: []api.Word{at("open", 1, 4), at("shut", 1, 5), at("open", 1, 6)}, Cond: 3, Level: -1})
	wantOneByOne(t, decls, []step{
		{nil, fault(api.ErrUnknown, at("nobody", 1, 2))},
		{func(d *api.Decl) { d.Head.Text = "bob" }, fault(api.ErrUnknown, at("nothing", 1, 3))},
		{func(d *api.Decl) { d.On.Text = "doors" }, fault(api.ErrUnknown, at("shut", 1, 5))},
		{func(d *api.Decl) { d.Names[1].Text = "ann" }, fault(api.ErrTwice, at("open", 1, 6))},
		{func(d *api.Decl) { d.All = true }, fault(api.ErrArg, at("bob", 1, 2))},
		{func(d *api.Decl) { d.All, d.Names = false, d.Names[:2] }, fault(api.ErrArg, at("bob", 1, 2))},
		{func(d *api.Decl) { d.Cond = api.Below }, fault(api.ErrNumber, at("bob", 1, 2))},
		{func(d *api.Decl) { d.Level = 0.5 }, fault(api.ErrMany, at("bob", 1, 2))},
		{func(d *api.Decl) { d.Cond = api.Always }, fault(api.ErrNumber, at("bob", 1, 2))},
		{func(d *api.Decl) { d.Level = 0 }, fault(api.ErrMany, at("bob", 1, 2))},
		{func(d *api.Decl) { *d = api.Decl{Kind: 12, Head: word("ann"), On: word("door"), Names: words("open")} }, api.Fault{}},
	})
}

func TestTheOrderOfFaultsInAnExcept(t *testing.T) {
	decls := append(fullOfExcepts(), api.Decl{Kind: 12, Line: 1, Head: at("nobody", 1, 2), On: at("nothing", 1, 3), Names: []api.Word{at("shut", 1, 4), at("a2", 1, 5)}})
	wantOneByOne(t, decls, []step{
		{nil, fault(api.ErrUnknown, at("nobody", 1, 2))},
		{func(d *api.Decl) { d.Head.Text = "s16" }, fault(api.ErrUnknown, at("nothing", 1, 3))},
		{func(d *api.Decl) { d.On.Text = "o1" }, fault(api.ErrUnknown, at("shut", 1, 4))},
		{func(d *api.Decl) { d.Names[0].Text = "a1" }, fault(api.ErrTwice, at("a1", 1, 4))},
		{func(d *api.Decl) { d.On.Text = "o2" }, fault(api.ErrMany, at("a1", 1, 4))},
		{func(d *api.Decl) { d.Names = nil }, api.Fault{}},
	})
}

func TestTheOrderOfFaultsInASubject(t *testing.T) {
	decls := []api.Decl{
		{Kind: 2, Names: words(numbered("s", 64)...)},
		{Kind: 2, Names: []api.Word{at("", 1, 1), at("s65", 1, 2), at("s64", 1, 3)}, Level: math.NaN()},
	}
	wantOneByOne(t, decls, []step{
		{nil, fault(api.ErrName, at("", 1, 1))},
		{func(d *api.Decl) { d.Names[0].Text = "s1" }, fault(api.ErrTwice, at("s1", 1, 1))},
		{func(d *api.Decl) { d.Names = d.Names[1:] }, fault(api.ErrMany, at("s65", 1, 2))},
		{func(d *api.Decl) { d.Names = d.Names[1:] }, fault(api.ErrTwice, at("s64", 1, 3))},
		{func(d *api.Decl) { decls[0].Names = decls[0].Names[:63] }, fault(api.ErrNumber, at("s64", 1, 3))},
		{func(d *api.Decl) { d.Level = 0.5 }, api.Fault{}},
	})
}

// A name is declared in its space by whatever came ahead, though as many of the kind are there as may be.
func TestTwiceComesAheadOfMany(t *testing.T) {
	w := at("r1", 1, 1)
	wantFault(t, []api.Decl{{Kind: 3, Names: words("r1")}, {Kind: 2, Names: words(numbered("s", 64)...)}, {Kind: 2, Names: []api.Word{w}}}, fault(api.ErrTwice, w))
}
