package canon_test

import (
	"math"
	"slices"
	"strings"
	"testing"

	"gatehouse/api"
	"gatehouse/canon"
	"gatehouse/names"
)

func wantDecl(t *testing.T, d api.Decl, want string) {
	t.Helper()
	if got, e := canon.Decl(d); got != want || e != api.OK {
		t.Errorf("Decl(%v): %q, %v, want %q", d, got, e, want)
	}
}

func wantRefused(t *testing.T, d api.Decl, want api.Errno) {
	t.Helper()
	if got, e := canon.Decl(d); got != "" || e != want {
		t.Errorf("Decl(%v): %q, %v, want %v", d, got, e, want)
	}
}

func TestDeclOfEachKind(t *testing.T) {
	for _, c := range []struct {
		d    api.Decl
		want string
	}{
		{api.Decl{Kind: 1, Names: words("open")}, "action open;"},
		{api.Decl{Kind: 1, Names: words("open", "read")}, "action open, read;"},
		{api.Decl{Kind: 2, Names: words("bob"), Level: 1}, "subject bob;"},
		{api.Decl{Kind: 2, Names: words("ann", "bob"), Level: 1}, "subject ann, bob;"},
		{api.Decl{Kind: 2, Names: words("ann", "bob"), Level: 0.5}, "subject ann, bob trust 0.5;"},
		{api.Decl{Kind: 2, Names: words("ann")}, "subject ann trust 0;"},
		{api.Decl{Kind: 3, Names: words("clerk", "guard", "cook")}, "role clerk, guard, cook;"},
		{api.Decl{Kind: 4, Names: words("door1")}, "object door1;"},
		{api.Decl{Kind: 5, Names: words("doors", "building")}, "group doors, building;"},
		{api.Decl{Kind: 6, Head: word("ann"), Names: words("clerk", "guard")}, "member ann : clerk, guard;"},
		{api.Decl{Kind: 7, Head: word("guard"), Names: words("clerk")}, "inherit guard : clerk;"},
		{api.Decl{Kind: 8, Head: word("door1"), Names: words("doors")}, "part door1 : doors;"},
		{api.Decl{Kind: 9, Head: word("doors"), Names: words("building", "yard")}, "within doors : building, yard;"},
		{api.Decl{Kind: 10, Head: word("clerk"), On: word("building"), Names: words("open", "read"), Cond: 1, Level: 0.25}, "allow clerk on building : open, read above 0.25;"},
		{api.Decl{Kind: 10, Head: word("clerk"), On: word("building"), Names: words("open")}, "allow clerk on building : open;"},
		{api.Decl{Kind: 10, Head: word("clerk"), On: word("building"), Names: words("open"), Cond: 2, Level: 1}, "allow clerk on building : open below 1;"},
		{api.Decl{Kind: 10, Head: word("clerk"), On: word("building"), All: true, Cond: 1}, "allow clerk on building : * above 0;"},
		{api.Decl{Kind: 10, Head: word("clerk"), On: word("building"), All: true, Cond: 1, Level: 1}, "allow clerk on building : * above 1;"},
		{api.Decl{Kind: 11, Head: word("role"), On: word("the vault"), All: true}, "deny \"role\" on \"the vault\" : *;"},
		{api.Decl{Kind: 11, Head: word("guard"), On: word("vault"), All: true, Cond: 2, Level: 0.000000001}, "deny guard on vault : * below 0.000000001;"},
		{api.Decl{Kind: 11, Head: word("guard"), On: word("vault"), Names: words("open"), Cond: 1, Level: 0.5}, "deny guard on vault : open above 0.5;"},
		{api.Decl{Kind: 12, Head: word("ann"), On: word("door1"), Names: words("read")}, "except ann on door1 : read;"},
		{api.Decl{Kind: 12, Head: word("ann"), On: word("door1"), Names: words("read", "open")}, "except ann on door1 : read, open;"},
	} {
		wantDecl(t, c.d, c.want)
	}
}

func TestNamesAreWrittenAsNamesDoes(t *testing.T) {
	wantDecl(t, api.Decl{Kind: 3, Names: words("role", "say \"no\\yes\"", "é", "*", strings.Repeat("\"", 32))},
		`role "role", "say \"no\\yes\"", "é", "*", "`+strings.Repeat(`\"`, 32)+`";`)
	for _, s := range goodNames() {
		w, ok := names.Written(s)
		if !ok {
			t.Fatal(s)
		}
		wantDecl(t, api.Decl{Kind: 5, Names: words(s)}, "group "+w+";")
		wantDecl(t, api.Decl{Kind: 4, Names: words("a", s)}, "object a, "+w+";")
		wantDecl(t, api.Decl{Kind: 6, Head: word(s), Names: words("b")}, "member "+w+" : b;")
		wantDecl(t, api.Decl{Kind: 12, Head: word("a"), On: word(s), Names: words("b")}, "except a on "+w+" : b;")
	}
	wantDecl(t, api.Decl{Kind: 1, Names: words("a", "a", "a")}, "action a, a, a;")
}

func TestWhatCountsForNothing(t *testing.T) {
	bad := api.Word{Text: "\x00", Line: -1, Col: 7}
	nan := math.NaN()
	at := func(s string) api.Word { return api.Word{Text: s, Line: 12, Col: -34} }
	for _, c := range []struct {
		d    api.Decl
		want string
	}{
		{api.Decl{Kind: 1, Line: 3, Col: 4, Head: bad, On: bad, Names: []api.Word{at("a"), at("b")}, All: true, Cond: 7, Level: nan}, "action a, b;"},
		{api.Decl{Kind: 3, Head: bad, On: bad, Names: words("a"), All: true, Cond: -1, Level: 2}, "role a;"},
		{api.Decl{Kind: 4, Head: bad, On: bad, Names: words("a"), All: true, Cond: 1, Level: 0.5}, "object a;"},
		{api.Decl{Kind: 5, Head: bad, On: bad, Names: words("a"), All: true, Cond: 2, Level: -1}, "group a;"},
		{api.Decl{Kind: 2, Head: bad, On: bad, Names: words("a"), All: true, Cond: 7, Level: 1}, "subject a;"},
		{api.Decl{Kind: 2, Head: bad, On: bad, Names: words("a"), All: true, Cond: 1, Level: 0.1}, "subject a trust 0.1;"},
		{api.Decl{Kind: 6, Head: at("a"), On: bad, Names: words("b"), All: true, Cond: 3, Level: nan}, "member a : b;"},
		{api.Decl{Kind: 7, Head: at("a"), On: bad, Names: words("b"), All: true, Cond: 1, Level: nan}, "inherit a : b;"},
		{api.Decl{Kind: 8, Head: at("a"), On: bad, Names: words("b"), All: true, Cond: 2, Level: nan}, "part a : b;"},
		{api.Decl{Kind: 9, Head: at("a"), On: bad, Names: words("b"), All: true, Cond: -128, Level: nan}, "within a : b;"},
		{api.Decl{Kind: 10, Head: at("a"), On: at("b"), All: true, Level: -1}, "allow a on b : *;"},
		{api.Decl{Kind: 11, Head: at("a"), On: at("b"), Names: words("c"), Level: nan}, "deny a on b : c;"},
		{api.Decl{Kind: 11, Head: at("a"), On: at("b"), Names: []api.Word{}, All: true, Level: 1}, "deny a on b : *;"},
		{api.Decl{Kind: 12, Head: at("a"), On: at("b"), Names: words("c"), All: true, Cond: 9, Level: nan}, "except a on b : c;"},
	} {
		wantDecl(t, c.d, c.want)
	}
}

func TestKindsThatThereAreNot(t *testing.T) {
	for k := -128; k <= 127; k++ {
		d := api.Decl{Kind: int8(k), Head: word("a"), On: word("b"), Names: words("c"), Level: 1}
		if k < 1 || k > 12 {
			wantRefused(t, d, api.ErrArg)
		} else if _, e := canon.Decl(d); e != api.OK {
			t.Errorf("Kind %d: %v", k, e)
		}
	}
	wantRefused(t, api.Decl{}, api.ErrArg)
}

func TestConditionsThatThereAreNot(t *testing.T) {
	for _, kind := range []int8{api.DeclAllow, api.DeclDeny} {
		for c := -128; c <= 127; c++ {
			d := api.Decl{Kind: kind, Head: word("a"), On: word("b"), Names: words("c"), Cond: int8(c)}
			if c < 0 || c > 2 {
				wantRefused(t, d, api.ErrArg)
			} else if _, e := canon.Decl(d); e != api.OK {
				t.Errorf("Cond %d: %v", c, e)
			}
		}
	}
}

func TestNamesAndAll(t *testing.T) {
	for kind := int8(1); kind <= 12; kind++ {
		rule := kind == api.DeclAllow || kind == api.DeclDeny
		for _, none := range [][]api.Word{nil, {}, words("x")[:0]} {
			d := api.Decl{Kind: kind, Head: word("a"), On: word("b"), Names: none, Level: 1}
			wantRefused(t, d, api.ErrArg)
			d.All = true
			if _, e := canon.Decl(d); (e == api.OK) != rule || !rule && e != api.ErrArg {
				t.Errorf("Kind %d with All alone: %v", kind, e)
			}
		}
		d := api.Decl{Kind: kind, Head: word("a"), On: word("b"), Names: words("c"), All: true, Level: 1}
		if _, e := canon.Decl(d); (e == api.OK) == rule || rule && e != api.ErrArg {
			t.Errorf("Kind %d with All and names: %v", kind, e)
		}
	}
}

func TestNamesThatAreNone(t *testing.T) {
	for _, s := range badNames() {
		for kind := int8(1); kind <= 12; kind++ {
			good := api.Decl{Kind: kind, Head: word("a"), On: word("b"), Names: words("c", "d", "e"), Level: 1}
			for i := range 3 {
				d := good
				d.Names = words("c", "d", "e")
				d.Names[i].Text = s
				wantRefused(t, d, api.ErrName)
			}
			if d := good; kind >= api.DeclMember {
				d.Head.Text = s
				wantRefused(t, d, api.ErrName)
			}
			if d := good; kind >= api.DeclAllow {
				d.On.Text = s
				wantRefused(t, d, api.ErrName)
			}
		}
		wantRefused(t, api.Decl{Kind: 11, Head: word("a"), On: word(s), All: true}, api.ErrName)
		wantRefused(t, api.Decl{Kind: 10, Head: word(s), On: word("a"), All: true}, api.ErrName)
	}
	wantRefused(t, api.Decl{Kind: 1, Names: words("a", "")}, api.ErrName)
	wantRefused(t, api.Decl{Kind: 6, Names: words("a")}, api.ErrName)
	wantRefused(t, api.Decl{Kind: 10, All: true, Head: word("a")}, api.ErrName)
}

func TestLevelsWithoutANumber(t *testing.T) {
	for _, x := range []float64{2, -1, math.Copysign(0, -1), 1.0 / 3, 1e-10, math.NaN(), math.Inf(1), math.Inf(-1), math.Nextafter(1, 0)} {
		wantRefused(t, api.Decl{Kind: 2, Names: words("a"), Level: x}, api.ErrNumber)
		for _, kind := range []int8{api.DeclAllow, api.DeclDeny} {
			for _, cond := range []int8{api.Above, api.Below} {
				wantRefused(t, api.Decl{Kind: kind, Head: word("a"), On: word("b"), All: true, Cond: cond, Level: x}, api.ErrNumber)
				wantRefused(t, api.Decl{Kind: kind, Head: word("a"), On: word("b"), Names: words("c"), Cond: cond, Level: x}, api.ErrNumber)
			}
		}
	}
}

func TestTheFirstErrorCounts(t *testing.T) {
	for _, d := range []api.Decl{
		{Kind: 0, Names: words("")},
		{Kind: 13, Names: words("a"), Level: 2, Cond: 1},
		{Kind: 6, Head: word("")},
		{Kind: 2, Level: 2},
		{Kind: 10, Head: word(""), On: word("b"), All: true, Cond: 3},
		{Kind: 10, Head: word("a"), On: word(""), Names: words("c"), All: true},
		{Kind: 10, Head: word("a"), On: word("b"), Names: words(""), All: true},
		{Kind: 11, Head: word("a"), On: word("b"), Cond: 1, Level: 2},
		{Kind: 11, Head: word("a"), On: word("b"), Names: words("c"), All: true, Cond: 2, Level: 2},
		{Kind: 12, Head: word(""), On: word("")},
	} {
		wantRefused(t, d, api.ErrArg)
	}
	for _, d := range []api.Decl{
		{Kind: 2, Names: words(""), Level: 2},
		{Kind: 2, Names: words("a", ""), Level: math.NaN()},
		{Kind: 10, Head: word(""), On: word("b"), All: true, Cond: 1, Level: 2},
		{Kind: 10, Head: word("a"), On: word(""), Names: words("c"), Cond: 2, Level: -1},
		{Kind: 11, Head: word("a"), On: word("b"), Names: words("c", "\n"), Cond: 2, Level: -1},
	} {
		wantRefused(t, d, api.ErrName)
	}
}

// forms are the chapter's table once more: H, O and N stand for Head, On and the names, L for a level.
func forms() []string {
	return []string{"", "action N;", "subject N trust L;", "role N;", "object N;", "group N;",
		"member H : N;", "inherit H : N;", "part H : N;", "within H : N;",
		"allow H on O : N above L;", "deny H on O : N above L;", "except H on O : N;"}
}

// expected is a second reckoning of Decl, by filling in a form.
func expected(d api.Decl) (string, api.Errno) {
	if d.Kind < 1 || d.Kind > 12 {
		return "", api.ErrArg
	}
	form := forms()[d.Kind]
	rule := strings.Contains(form, "above")
	if rule && (d.Cond < 0 || d.Cond > 2 || d.All && len(d.Names) > 0) || len(d.Names) == 0 && !(rule && d.All) {
		return "", api.ErrArg
	}
	var listed []string
	for _, w := range d.Names {
		listed = append(listed, w.Text)
	}
	asked := slices.Clone(listed)
	if strings.Contains(form, "H") {
		asked = append(asked, d.Head.Text)
	}
	if strings.Contains(form, "O") {
		asked = append(asked, d.On.Text)
	}
	written := map[string]string{}
	for _, s := range asked {
		w, ok := names.Written(s)
		if !ok {
			return "", api.ErrName
		}
		written[s] = w
	}
	if d.Kind == api.DeclSubject && d.Level == 1 {
		form = "subject N;"
	}
	if rule && d.Cond == api.Always {
		form = strings.Replace(form, " above L", "", 1)
	}
	if rule && d.Cond == api.Below {
		form = strings.Replace(form, "above", "below", 1)
	}
	level, ok := canon.Number(d.Level)
	if strings.Contains(form, "L") && !ok {
		return "", api.ErrNumber
	}
	for i, s := range listed {
		listed[i] = written[s]
	}
	list := strings.Join(listed, ", ")
	if rule && d.All {
		list = "*"
	}
	return strings.NewReplacer("H", written[d.Head.Text], "O", written[d.On.Text], "N", list, "L", level).Replace(form), api.OK
}

// thrown is a declaration by chance; about every second one has a text.
func thrown(d *dice) api.Decl {
	good, bad := goodNames(), badNames()
	name := func() api.Word {
		w := api.Word{Line: d.below(9), Col: d.below(9), Text: good[d.below(len(good))]}
		if d.below(30) == 0 {
			w.Text = bad[d.below(len(bad))]
		}
		return w
	}
	levels := []float64{0, 1, 0.5, 0.1, 0.999999999, 1e-9, 1, 1, 2, math.NaN(), math.Copysign(0, -1), 1.0 / 3}
	out := api.Decl{Kind: int8(d.below(27) - 13), Line: d.below(9), Col: d.below(9), Head: name(), On: name(), Cond: int8(d.below(3)), Level: levels[d.below(len(levels))]}
	if out.Kind < 0 {
		out.Kind = -out.Kind
	}
	if d.below(20) == 0 {
		out.Cond = int8(d.below(256) - 128)
	}
	for range d.below(4) {
		out.Names = append(out.Names, name())
	}
	out.All = len(out.Names) == 0
	if d.below(8) == 0 {
		out.All = !out.All
	}
	return out
}

func TestDeclAgainstTheForms(t *testing.T) {
	d := dice(11)
	count := map[api.Errno]int{}
	for range 50000 {
		c := thrown(&d)
		want, e := expected(c)
		count[e]++
		if got, code := canon.Decl(c); got != want || code != e {
			t.Fatalf("Decl(%v): %q, %v, want %q, %v", c, got, code, want, e)
		}
	}
	for _, e := range []api.Errno{api.OK, api.ErrArg, api.ErrName, api.ErrNumber} {
		if count[e] < 1000 {
			t.Errorf("%v: %d cases alone", e, count[e])
		}
	}
}
