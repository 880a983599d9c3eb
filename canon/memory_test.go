package canon_test

import (
	"reflect"
	"slices"
	"testing"
	"unsafe"

	"gatehouse/api"
	"gatehouse/canon"
)

// spare is a list with room behind it that is filled, so that a write there would be seen.
func spare[E any](l []E, filler E) ([]E, []E) {
	whole := append(slices.Clone(l), filler, filler)
	return whole[:len(l)], whole
}

func TestWhatIsHandedInStaysAsItIs(t *testing.T) {
	list, whole := spare(words("a", "b"), word("c"))
	d := api.Decl{Kind: 10, Head: word("h"), On: word("o"), Names: list, Cond: 1}
	for range 2 {
		wantDecl(t, d, "allow h on o : a, b above 0;")
		d.All = false
	}
	if !slices.Equal(whole, words("a", "b", "c", "c")) {
		t.Error("Decl has changed its names:", whole)
	}
	p := full()
	p.Rules = p.Rules[:3] // the fourth has a NaN, which is not the same as itself
	want := full()
	want.Rules = want.Rules[:3]
	actions, room := spare(p.Rules[0].Actions, "c")
	p.Rules[0].Actions = actions
	canon.Decls(p)
	canon.Text(p)
	if !reflect.DeepEqual(p, want) || !slices.Equal(room, []string{"open", "read", "c", "c"}) {
		t.Error("a policy has changed:", p, room)
	}
}

func textsOf(p api.Policy) []string {
	l := slices.Concat(p.Actions, p.Roles, p.Objects, p.Groups)
	for _, s := range p.Subjects {
		l = append(l, s.Name)
	}
	for _, q := range slices.Concat(p.Members, p.Inherits, p.Parts, p.Withins) {
		l = append(l, q.From, q.To)
	}
	for _, r := range p.Rules {
		l = append(append(l, r.Who, r.What), r.Actions...)
	}
	for _, e := range p.Excepts {
		l = append(l, e.Subject, e.Object, e.Action)
	}
	return l
}

func TestWhatIsAnsweredSharesNothing(t *testing.T) {
	p := full()
	given := map[*byte]bool{}
	for _, s := range textsOf(p) {
		given[unsafe.StringData(s)] = true
	}
	lists := map[*api.Word]bool{}
	answer := canon.Decls(p)
	for _, d := range answer {
		for _, w := range append(slices.Clone(d.Names), d.Head, d.On) {
			if w.Text != "" && given[unsafe.StringData(w.Text)] {
				t.Errorf("%q is the text that was handed in", w.Text)
			}
		}
		room := d.Names[:cap(d.Names)]
		for i := range room {
			if lists[&room[i]] {
				t.Errorf("%v shares its names with another one", d)
			}
			lists[&room[i]] = true
		}
	}
	answer[0].Names[0].Text = "changed"
	if again := canon.Decls(p); again[0].Names[0].Text != "open" {
		t.Error("what is answered was kept:", again[0])
	}
}
