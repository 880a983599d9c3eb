package valid_test

import (
	"errors"
	"math"
	"slices"
	"strconv"
	"strings"
	"testing"

	"gatehouse/api"
	"gatehouse/valid"
)

// dice are numbers that look like chance and are the same in every run.
type dice uint64

func (d *dice) below(n int) int {
	*d = *d*6364136223846793005 + 1442695040888963407
	return int(uint64(*d>>33) % uint64(n))
}

func at(text string, line, col int) api.Word {
	return api.Word{Text: text, Line: line, Col: col}
}

func word(text string) api.Word { return api.Word{Text: text} }

// words has each word at a place of its own, 7:1, 7:2 and so on.
func words(texts ...string) []api.Word {
	var l []api.Word
	for i, s := range texts {
		l = append(l, at(s, 7, i+1))
	}
	return l
}

// numbered are the names a1, a2 and so on, for another beginning likewise.
func numbered(beginning string, n int) []string {
	var l []string
	for i := range n {
		l = append(l, beginning+strconv.Itoa(i+1))
	}
	return l
}

func fault(code api.Errno, w api.Word) api.Fault {
	return api.Fault{Code: code, Line: w.Line, Col: w.Col, Word: w.Text}
}

func sameFloat(a, b float64) bool {
	return math.Float64bits(a) == math.Float64bits(b)
}

func sameSubject(a, b api.Subject) bool {
	return a.Name == b.Name && sameFloat(a.Trust, b.Trust)
}

func sameRule(a, b api.Rule) bool {
	return a.Deny == b.Deny && a.Who == b.Who && a.What == b.What && slices.Equal(a.Actions, b.Actions) && a.Cond == b.Cond && sameFloat(a.Level, b.Level)
}

// same takes a nil list and an empty one for the same.
func same(a, b api.Policy) bool {
	return slices.Equal(a.Actions, b.Actions) && slices.EqualFunc(a.Subjects, b.Subjects, sameSubject) && slices.Equal(a.Roles, b.Roles) &&
		slices.Equal(a.Objects, b.Objects) && slices.Equal(a.Groups, b.Groups) && slices.Equal(a.Members, b.Members) &&
		slices.Equal(a.Inherits, b.Inherits) && slices.Equal(a.Parts, b.Parts) && slices.Equal(a.Withins, b.Withins) &&
		slices.EqualFunc(a.Rules, b.Rules, sameRule) && slices.Equal(a.Excepts, b.Excepts)
}

// faultOf is the fault that an error itself is, the zero fault of none.
func faultOf(t *testing.T, err error) api.Fault {
	t.Helper()
	if err == nil {
		return api.Fault{}
	}
	f, ok := err.(*api.Fault)
	if !ok || f == nil || f.Code == api.OK || !errors.Is(err, f.Code) {
		t.Fatalf("%#v is no fault", err)
	}
	return *f
}

func wantPolicy(t *testing.T, decls []api.Decl, want api.Policy) {
	t.Helper()
	got, err := valid.Build(decls)
	if err != nil || !same(got, want) {
		t.Errorf("Build(%v)\n= %v, %v, want\n%v", decls, got, err, want)
	}
}

func wantFault(t *testing.T, decls []api.Decl, want api.Fault) {
	t.Helper()
	got, err := valid.Build(decls)
	if f := faultOf(t, err); f != want || !same(got, api.Policy{}) {
		t.Errorf("Build(%v)\n= %v, %v, want %v", decls, got, &f, &want)
	}
}

func wantLoaded(t *testing.T, text string, want api.Policy) {
	t.Helper()
	got, err := valid.Load(text)
	if err != nil || !same(got, want) {
		t.Errorf("Load(%q)\n= %v, %v, want\n%v", text, got, err, want)
	}
}

func wantNotLoaded(t *testing.T, text string, want api.Fault) {
	t.Helper()
	got, err := valid.Load(text)
	if f := faultOf(t, err); f != want || !same(got, api.Policy{}) {
		t.Errorf("Load(%q)\n= %v, %v, want %v", text, got, &f, &want)
	}
}

// base declares two of everything: ann is a subject, an object and an action, too.
func base() []api.Decl {
	return []api.Decl{
		{Kind: api.DeclAction, Names: words("open", "ann")},
		{Kind: api.DeclSubject, Names: words("ann", "bob"), Level: 0.5},
		{Kind: api.DeclRole, Names: words("clerk", "guard")},
		{Kind: api.DeclObject, Names: words("door", "ann")},
		{Kind: api.DeclGroup, Names: words("doors", "building")},
	}
}

// with is what base declares and something else.
func with(more ...api.Decl) []api.Decl { return append(base(), more...) }

// basePolicy is what base says.
func basePolicy() api.Policy {
	return api.Policy{
		Actions:  []string{"open", "ann"},
		Subjects: []api.Subject{{Name: "ann", Trust: 0.5}, {Name: "bob", Trust: 0.5}},
		Roles:    []string{"clerk", "guard"},
		Objects:  []string{"door", "ann"},
		Groups:   []string{"doors", "building"},
	}
}

// full is a right policy with two things of every sort at least, pairs that make rings among them, and a rule twice.
func full() api.Policy {
	p := basePolicy()
	p.Subjects[1].Trust = 1
	p.Members = []api.Pair{{From: "ann", To: "clerk"}, {From: "bob", To: "clerk"}, {From: "ann", To: "guard"}}
	p.Inherits = []api.Pair{{From: "clerk", To: "guard"}, {From: "guard", To: "clerk"}, {From: "clerk", To: "clerk"}}
	p.Parts = []api.Pair{{From: "door", To: "doors"}, {From: "ann", To: "doors"}}
	p.Withins = []api.Pair{{From: "doors", To: "doors"}, {From: "doors", To: "building"}, {From: "building", To: "doors"}}
	p.Rules = []api.Rule{
		{Who: "clerk", What: "building", Actions: []string{"open"}, Cond: api.Above, Level: 0.25},
		{Deny: true, Who: "ann", What: "door"},
		{Who: "ann", What: "ann", Actions: []string{"ann", "open"}, Cond: api.Below, Level: 1},
		{Deny: true, Who: "ann", What: "door"},
		{Who: "guard", What: "doors", Cond: api.Above},
	}
	p.Excepts = []api.Triple{{Subject: "ann", Object: "ann", Action: "ann"}, {Subject: "bob", Object: "door", Action: "open"}}
	return p
}

// noNumbers are floats that may not be written.
func noNumbers() []float64 {
	return []float64{2, -1, -0.5, math.Copysign(0, -1), 1.0 / 3, 1e-10, 0.1234567891, math.NaN(), math.Inf(1), math.Inf(-1), math.Nextafter(1, 0), math.Nextafter(1, 2), math.SmallestNonzeroFloat64, math.MaxFloat64}
}

// noNames are texts that are no names.
func noNames() []string {
	return []string{"", strings.Repeat("x", 33), strings.Repeat("é", 16) + "a", "a\tb", "a\nb", "\x00", "\x7f", "\u0085", "\xff", "a\xc3", "\xed\xa0\x80", strings.Repeat("long", 1000)}
}
