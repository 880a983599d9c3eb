package valid_test

import (
	"math"
	"slices"
	"strconv"
	"testing"

	"gatehouse/api"
	"gatehouse/canon"
	"gatehouse/names"
	"gatehouse/valid"
)

// ledger is a second reckoning of Build: it goes through everything, wrong or not, and keeps the first fault that it notes.
type ledger struct {
	p     api.Policy
	first api.Fault
}

func (l *ledger) note(wrong bool, code api.Errno, w api.Word) {
	if wrong && l.first.Code == api.OK {
		l.first = fault(code, w)
	}
}

func (l *ledger) isSubject(name string) bool {
	return slices.ContainsFunc(l.p.Subjects, func(s api.Subject) bool { return s.Name == name })
}

func (l *ledger) isWho(name string) bool {
	return l.isSubject(name) || slices.Contains(l.p.Roles, name)
}

func (l *ledger) isWhat(name string) bool {
	return slices.Contains(l.p.Objects, name) || slices.Contains(l.p.Groups, name)
}

func noNumber(x float64) bool {
	_, ok := canon.Number(x)
	return !ok
}

func (l *ledger) declare(d api.Decl) {
	p := &l.p
	for _, w := range d.Names {
		if d.Kind >= 1 && d.Kind <= 5 {
			l.note(!names.Valid(w.Text), api.ErrName, w)
		}
		switch d.Kind {
		case 1:
			l.note(slices.Contains(p.Actions, w.Text), api.ErrTwice, w)
			l.note(len(p.Actions) == 16, api.ErrMany, w)
			p.Actions = append(p.Actions, w.Text)
		case 2:
			l.note(l.isWho(w.Text), api.ErrTwice, w)
			l.note(len(p.Subjects) == 64, api.ErrMany, w)
			l.note(noNumber(d.Level), api.ErrNumber, w)
			p.Subjects = append(p.Subjects, api.Subject{Name: w.Text, Trust: d.Level})
		case 3:
			l.note(l.isWho(w.Text), api.ErrTwice, w)
			l.note(len(p.Roles) == 64, api.ErrMany, w)
			p.Roles = append(p.Roles, w.Text)
		case 4:
			l.note(l.isWhat(w.Text), api.ErrTwice, w)
			l.note(len(p.Objects) == 64, api.ErrMany, w)
			p.Objects = append(p.Objects, w.Text)
		case 5:
			l.note(l.isWhat(w.Text), api.ErrTwice, w)
			l.note(len(p.Groups) == 64, api.ErrMany, w)
			p.Groups = append(p.Groups, w.Text)
		}
	}
}

func (l *ledger) pairs(d api.Decl, list *[]api.Pair, from, to func(string) bool) {
	l.note(!from(d.Head.Text), api.ErrUnknown, d.Head)
	for _, w := range d.Names {
		pair := api.Pair{From: d.Head.Text, To: w.Text}
		l.note(!to(w.Text), api.ErrUnknown, w)
		l.note(slices.Contains(*list, pair), api.ErrTwice, w)
		l.note(len(*list) == 256, api.ErrMany, w)
		*list = append(*list, pair)
	}
}

func (l *ledger) rule(d api.Decl) {
	r := api.Rule{Deny: d.Kind == 11, Who: d.Head.Text, What: d.On.Text, Cond: d.Cond, Level: d.Level}
	l.note(!l.isWho(r.Who), api.ErrUnknown, d.Head)
	l.note(!l.isWhat(r.What), api.ErrUnknown, d.On)
	for _, w := range d.Names {
		if !d.All {
			l.note(!slices.Contains(l.p.Actions, w.Text), api.ErrUnknown, w)
			l.note(slices.Contains(r.Actions, w.Text), api.ErrTwice, w)
			r.Actions = append(r.Actions, w.Text)
		}
	}
	l.note(d.Cond < 0 || d.Cond > 2, api.ErrArg, d.Head)
	l.note(noNumber(d.Level) || d.Cond == 0 && d.Level != 0, api.ErrNumber, d.Head)
	l.note(len(l.p.Rules) == 256, api.ErrMany, d.Head)
	l.p.Rules = append(l.p.Rules, r)
}

func (l *ledger) excepts(d api.Decl) {
	l.note(!l.isSubject(d.Head.Text), api.ErrUnknown, d.Head)
	l.note(!slices.Contains(l.p.Objects, d.On.Text), api.ErrUnknown, d.On)
	for _, w := range d.Names {
		e := api.Triple{Subject: d.Head.Text, Object: d.On.Text, Action: w.Text}
		l.note(!slices.Contains(l.p.Actions, w.Text), api.ErrUnknown, w)
		l.note(slices.Contains(l.p.Excepts, e), api.ErrTwice, w)
		l.note(len(l.p.Excepts) == 256, api.ErrMany, w)
		l.p.Excepts = append(l.p.Excepts, e)
	}
}

func (l *ledger) use(d api.Decl) {
	isRole := func(s string) bool { return slices.Contains(l.p.Roles, s) }
	isObject := func(s string) bool { return slices.Contains(l.p.Objects, s) }
	isGroup := func(s string) bool { return slices.Contains(l.p.Groups, s) }
	switch d.Kind {
	case 6:
		l.pairs(d, &l.p.Members, l.isSubject, isRole)
	case 7:
		l.pairs(d, &l.p.Inherits, isRole, isRole)
	case 8:
		l.pairs(d, &l.p.Parts, isObject, isGroup)
	case 9:
		l.pairs(d, &l.p.Withins, isGroup, isGroup)
	case 10, 11:
		l.rule(d)
	case 12:
		l.excepts(d)
	}
}

func expected(decls []api.Decl) (api.Policy, api.Fault) {
	var l ledger
	for _, d := range decls {
		l.note(d.Kind < 1 || d.Kind > 12, api.ErrArg, at("", d.Line, d.Col))
		l.declare(d)
	}
	for _, d := range decls {
		l.use(d)
	}
	text, _ := canon.Text(l.p)
	l.note(len(text) > 65536, api.ErrLong, api.Word{})
	if l.first.Code != api.OK {
		return api.Policy{}, l.first
	}
	return l.p, l.first
}

// thrower makes declarations by chance: of a1 up to as many actions, of s1, r1, o1, g1 likewise.
type thrower struct {
	dice
	most   int // names of a kind; of actions 16 all the same
	sloppy int // one time in so many something is thrown that may be wrong
}

func (h *thrower) slips() bool { return h.below(h.sloppy) == 0 }

func (h *thrower) mostOf(beginning string) int {
	if beginning == "a" {
		return min(h.most, 16)
	}
	return h.most
}

func (h *thrower) name(beginning string) api.Word {
	w := at(beginning+strconv.Itoa(1+h.below(h.mostOf(beginning))), h.below(99), h.below(99))
	if h.slips() {
		w.Text = []string{"", "s1", "r1", "o1", "g1", "a1", "\xff", "nobody"}[h.below(8)]
	}
	return w
}

func (h *thrower) names(beginning string) []api.Word {
	var l []api.Word
	for range 1 + h.below(4) {
		w := h.name(beginning)
		if h.slips() || !slices.ContainsFunc(l, func(o api.Word) bool { return o.Text == w.Text }) {
			l = append(l, w)
		}
	}
	return l
}

// declarations are all names that name gives, now and then with one too many or too few.
func (h *thrower) declarations() []api.Decl {
	var l []api.Decl
	for i, beginning := range []string{"a", "s", "r", "o", "g"} {
		d := api.Decl{Kind: int8(i + 1), Level: float64(h.below(4)) / 4}
		for n, s := range numbered(beginning, h.mostOf(beginning)) {
			if !h.slips() {
				d.Names = append(d.Names, at(s, i, n))
			}
		}
		if h.slips() {
			d.Names = append(d.Names, h.name(beginning))
		}
		if h.slips() {
			d.Names = append(d.Names, at([]string{"", "\t", "\xff"}[h.below(3)], i, 99))
		}
		if h.slips() {
			d.Level = []float64{-1, math.NaN(), 1.0 / 3}[h.below(3)]
		}
		l = append(l, d)
	}
	return l
}

// using is a declaration that declares nothing.
func (h *thrower) using() api.Decl {
	d := api.Decl{Kind: int8(6 + h.below(7)), Line: h.below(9), Col: h.below(9)}
	from := []string{"s", "r", "o", "g"}
	to := []string{"r", "r", "g", "g"}
	switch {
	case d.Kind < api.DeclAllow:
		d.Head, d.Names = h.name(from[d.Kind-6]), h.names(to[d.Kind-6])
	case d.Kind == api.DeclExcept:
		d.Head, d.On, d.Names = h.name("s"), h.name("o"), h.names("a")
	default:
		d.Head, d.On, d.Names = h.name(from[h.below(2)]), h.name(from[2+h.below(2)]), h.names("a")
		d.All, d.Cond = h.below(3) == 0, int8(h.below(3))
		if d.Cond != api.Always || h.slips() {
			d.Level = []float64{0, 1, 0.5, 0.1, 0.000000001}[h.below(5)]
		}
		if h.slips() {
			d.Cond, d.Level = int8(h.below(7)-3), []float64{-1, 2, math.NaN(), math.Copysign(0, -1), 0}[h.below(5)]
		}
	}
	return d
}

func (h *thrower) shuffle(l []api.Decl) []api.Decl {
	for i := range l {
		j := h.below(i + 1)
		l[i], l[j] = l[j], l[i]
	}
	return l
}

// thrown has its declarations in some order.
func (h *thrower) thrown(uses int) []api.Decl {
	l := h.declarations()
	for range uses {
		l = append(l, h.using())
	}
	if h.slips() {
		l = append(l, api.Decl{Kind: int8(h.below(100) + 13), Line: h.below(9), Col: h.below(9)})
	}
	return h.shuffle(l)
}

// nearlyFull has every list full, but for a few things that are left out, and a few more.
func (h *thrower) nearlyFull() []api.Decl {
	l := append(fullOfPairs(), fullOfExcepts()[3:]...)
	l = append(l, api.Decl{Kind: 1, Names: words(numbered("a", 16)...)})
	for i := range api.MaxRules {
		l = append(l, api.Decl{Kind: 10, Head: at("s1", 8, i), On: word("o1"), All: true})
	}
	for range h.below(5) {
		at := 4 + h.below(len(l)-4)
		if n := len(l[at].Names); n > 0 && l[at].Kind > api.DeclGroup {
			l[at].Names = l[at].Names[:n-1-h.below(min(n, 3))]
		} else if l[at].Kind > api.DeclGroup {
			l = slices.Delete(l, at, at+1)
		}
	}
	for range h.below(3) {
		l = append(l, h.using())
	}
	return h.shuffle(l)
}

func wantAsExpected(t *testing.T, decls []api.Decl, count map[api.Errno]int) {
	t.Helper()
	p, f := expected(decls)
	count[f.Code]++
	got, err := valid.Build(decls)
	if told := faultOf(t, err); told != f || !same(got, p) {
		t.Fatalf("Build(%v)\n= %v, %v, want\n%v, %v", decls, got, &told, p, &f)
	}
}

func wantCases(t *testing.T, count map[api.Errno]int, least int, codes ...api.Errno) {
	t.Helper()
	for _, code := range codes {
		if count[code] < least {
			t.Errorf("%v: %d cases alone", code, count[code])
		}
	}
}

func TestBuildAgainstTheLedger(t *testing.T) {
	count := map[api.Errno]int{}
	h := thrower{dice: 5, most: 6}
	for i := range 20000 {
		h.sloppy = 30 + i%400
		wantAsExpected(t, h.thrown(h.below(8)), count)
	}
	wantCases(t, count, 100, api.OK, api.ErrArg, api.ErrName, api.ErrNumber, api.ErrTwice, api.ErrUnknown)
}

func TestFullListsAgainstTheLedger(t *testing.T) {
	count := map[api.Errno]int{}
	h := thrower{dice: 9, most: 64, sloppy: 50}
	for range 400 {
		wantAsExpected(t, h.nearlyFull(), count)
	}
	wantCases(t, count, 10, api.OK, api.ErrMany, api.ErrTwice, api.ErrUnknown)
}
