package valid_test

import (
	"reflect"
	"slices"
	"strings"
	"testing"
	"unsafe"

	"gatehouse/api"
	"gatehouse/canon"
	"gatehouse/valid"
)

// textsOf are all texts in a policy.
func textsOf(p api.Policy) []string {
	l := slices.Concat(p.Actions, p.Roles, p.Objects, p.Groups)
	for _, s := range p.Subjects {
		l = append(l, s.Name)
	}
	for _, q := range slices.Concat(p.Members, p.Inherits, p.Parts, p.Withins) {
		l = append(l, q.From, q.To)
	}
	for _, r := range p.Rules {
		l = append(append(l, r.Who, r.What), r.Actions...)
	}
	for _, e := range p.Excepts {
		l = append(l, e.Subject, e.Object, e.Action)
	}
	return l
}

// spared has names with room behind them that is filled, so that a write there would be seen.
func spared(decls []api.Decl) []api.Decl {
	for i := range decls {
		n := len(decls[i].Names)
		decls[i].Names = append(slices.Clone(decls[i].Names), at("spare", 1, 1), at("room", 2, 2))[:n]
	}
	return decls
}

// whole has what stands in the spare room, too.
func whole(decls []api.Decl) []api.Decl {
	decls = slices.Clone(decls)
	for i := range decls {
		decls[i].Names = slices.Clone(decls[i].Names[:len(decls[i].Names)+2])
	}
	return decls
}

func TestWhatIsHandedInStaysAsItIs(t *testing.T) {
	lists := [][]api.Decl{thingByThing(full()), fullOfPairs()}
	for _, m := range slices.Concat(nameMistakes()[:20], pairMistakes()[:30], exceptMistakes()[:20]) {
		lists = append(lists, with(m.d))
	}
	for _, l := range lists {
		l = spared(l)
		before := whole(l)
		for range 2 {
			valid.Build(l)
		}
		if !reflect.DeepEqual(whole(l), before) {
			t.Errorf("the declarations have changed: %v", whole(l))
		}
	}
	p := full()
	actions := []string{"open", "spare"}
	p.Rules[0].Actions = actions[:1]
	valid.Check(p)
	if !reflect.DeepEqual(p, full()) || actions[1] != "spare" {
		t.Errorf("the policy has changed: %v", p)
	}
}

// apart makes each text a text of its own, and notes where it lies.
func apart(decls []api.Decl, given map[*byte]bool) []api.Decl {
	own := func(w *api.Word) {
		w.Text = strings.Clone(w.Text)
		if w.Text != "" {
			given[unsafe.StringData(w.Text)] = true
		}
	}
	for i := range decls {
		own(&decls[i].Head)
		own(&decls[i].On)
		for j := range decls[i].Names {
			own(&decls[i].Names[j])
		}
	}
	return decls
}

func TestWhatIsAnsweredSharesNothing(t *testing.T) {
	given := map[*byte]bool{}
	p, err := valid.Build(apart(thingByThing(full()), given))
	if err != nil {
		t.Fatal(err)
	}
	for _, s := range textsOf(p) {
		if given[unsafe.StringData(s)] {
			t.Errorf("%q is the text that was handed in", s)
		}
	}
	for _, m := range mistakes() {
		_, err := valid.Build(apart(with(m.d), given))
		if f := err.(*api.Fault); f.Word != "" && given[unsafe.StringData(f.Word)] {
			t.Errorf("%v has the text that was handed in", f)
		}
	}
}

func TestNoTextIsAPieceOfTheOneThatIsRead(t *testing.T) {
	text := strings.Clone(example)
	from := uintptr(unsafe.Pointer(unsafe.StringData(text)))
	p, err := valid.Load(text)
	if err != nil {
		t.Fatal(err)
	}
	for _, s := range textsOf(p) {
		if at := uintptr(unsafe.Pointer(unsafe.StringData(s))); at >= from && at < from+uintptr(len(text)) {
			t.Errorf("%q is a piece of the text", s)
		}
	}
}

// wipe fills a list and its spare room with zero values.
func wipe[E any](l []E) { clear(l[:cap(l)]) }

// No two lists of one answer share memory, and none is kept.
func TestTheListsOfAnAnswerAreApart(t *testing.T) {
	decls := thingByThing(full())
	for i := range full().Rules {
		p, err := valid.Build(decls)
		if err != nil {
			t.Fatal(err)
		}
		wipe(p.Rules[i].Actions)
		want := full()
		wipe(want.Rules[i].Actions)
		if !same(p, want) {
			t.Errorf("the actions of the rule %d are shared: %v", i, p)
		}
	}
	wipes := []func(p *api.Policy){
		func(p *api.Policy) { wipe(p.Actions) }, func(p *api.Policy) { wipe(p.Subjects) }, func(p *api.Policy) { wipe(p.Roles) },
		func(p *api.Policy) { wipe(p.Objects) }, func(p *api.Policy) { wipe(p.Groups) }, func(p *api.Policy) { wipe(p.Members) },
		func(p *api.Policy) { wipe(p.Inherits) }, func(p *api.Policy) { wipe(p.Parts) }, func(p *api.Policy) { wipe(p.Withins) },
		func(p *api.Policy) { wipe(p.Rules) }, func(p *api.Policy) { wipe(p.Excepts) },
	}
	for i, wipeOne := range wipes {
		p, _ := valid.Build(decls)
		want := full()
		wipeOne(&p)
		wipeOne(&want)
		if !same(p, want) {
			t.Errorf("the list %d is shared: %v", i, p)
		}
	}
	wantPolicy(t, decls, full())
	wantPolicy(t, canon.Decls(full()), full())
}
