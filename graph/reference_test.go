package graph_test

import (
	"math"
	"slices"
	"strings"
	"testing"

	"gatehouse/api"
	"gatehouse/graph"
	"gatehouse/mean"
)

// A second reckoning, which reads the chapter's words as they stand: each two things are held against each other, mask by mask.

// slowClasses numbers n things: two are of one class if alike says so.
func slowClasses(n int, alike func(i, j int) bool) []int {
	var classes []int
	next := 1
	for i := range n {
		class := 0
		for j := range i {
			if class == 0 && alike(i, j) {
				class = classes[j]
			}
		}
		if class == 0 {
			class = next
			next++
		}
		classes = append(classes, class)
	}
	return classes
}

func slowCompile(p api.Policy) api.Graph {
	if len(p.Actions) > 16 || len(p.Subjects) > 64 || len(p.Objects) > 64 {
		return api.Graph{}
	}
	g := api.Graph{Actions: slices.Clone(p.Actions), Objects: slices.Clone(p.Objects)}
	masks := make([][]uint16, len(p.Subjects))
	for i, s := range p.Subjects {
		g.Subjects = append(g.Subjects, s.Name)
		for _, o := range p.Objects {
			masks[i] = append(masks[i], mean.Mask(p, s.Name, o))
		}
	}
	g.Of = slowClasses(len(p.Subjects), func(i, j int) bool {
		for o := range p.Objects {
			if masks[i][o] != masks[j][o] {
				return false
			}
		}
		return true
	})
	g.On = slowClasses(len(p.Objects), func(i, j int) bool {
		for s := range p.Subjects {
			if masks[s][i] != masks[s][j] {
				return false
			}
		}
		return true
	})
	for x := 1; slices.Contains(g.Of, x); x++ {
		var row []uint16
		for y := 1; slices.Contains(g.On, y); y++ {
			row = append(row, masks[slices.Index(g.Of, x)][slices.Index(g.On, y)])
		}
		g.Masks = append(g.Masks, row)
	}
	return g
}

func slowTwice(texts []string) bool {
	for i, text := range texts {
		if slices.Contains(texts[:i], text) {
			return true
		}
	}
	return false
}

func slowNumbers(list []int) bool {
	for i, n := range list {
		if i == 0 && n != 1 || n < 1 || i > 0 && n-1 > slices.Max(list[:i]) {
			return false
		}
	}
	return true
}

func slowGreatest(list []int) int {
	if len(list) == 0 {
		return 0
	}
	return slices.Max(list)
}

func slowValid(g api.Graph) bool {
	if len(g.Actions) > 16 || len(g.Subjects) > 64 || len(g.Objects) > 64 || slowTwice(g.Actions) || slowTwice(g.Subjects) || slowTwice(g.Objects) {
		return false
	}
	if len(g.Of) != len(g.Subjects) || len(g.On) != len(g.Objects) || !slowNumbers(g.Of) || !slowNumbers(g.On) {
		return false
	}
	if len(g.Masks) != slowGreatest(g.Of) {
		return false
	}
	columns := make([][]uint16, slowGreatest(g.On))
	for i, row := range g.Masks {
		if len(row) != len(columns) {
			return false
		}
		for j, mask := range row {
			if int(mask) >= 1<<len(g.Actions) {
				return false
			}
			columns[j] = append(columns[j], mask)
		}
		for _, other := range g.Masks[:i] {
			if slices.Equal(row, other) {
				return false
			}
		}
	}
	for j, column := range columns {
		for _, other := range columns[:j] {
			if slices.Equal(column, other) {
				return false
			}
		}
	}
	return true
}

func slowDecide(g api.Graph, x api.Triple) bool {
	i, j, k := slices.Index(g.Subjects, x.Subject), slices.Index(g.Objects, x.Object), slices.Index(g.Actions, x.Action)
	if i < 0 || j < 0 || k < 0 || k > 15 || i >= len(g.Of) || j >= len(g.On) {
		return false
	}
	for r, row := range g.Masks {
		for c, mask := range row {
			if r+1 == g.Of[i] && c+1 == g.On[j] {
				return int(mask)/int(math.Pow(2, float64(k)))%2 == 1
			}
		}
	}
	return false
}

// dice is a row of numbers that is the same in each run.
type dice uint64

func (d *dice) throw(n int) int {
	*d = *d*6364136223846793005 + 1442695040888963407
	return int(uint64(*d>>33) % uint64(n))
}

// of is one of several things.
func of[T any](d *dice, things []T) T { return things[d.throw(len(things))] }

// some are at most most things.
func some[T any](d *dice, most int, thing func() T) []T {
	var l []T
	for range d.throw(most + 1) {
		l = append(l, thing())
	}
	return l
}

var (
	whoNames    = []string{"ann", "ann", "bob", "cat", "dan", "r1", "r2", "x"}
	whatNames   = []string{"door", "door", "safe", "lamp", "gate", "g1", "x"}
	actionNames = []string{"open", "open", "read", "write", "x"}
)

// thrown is a policy of few names, right or not: names may come twice, in several lists, or stand in a pair or a rule alone; trusts and levels may be no numbers.
func (d *dice) thrown() api.Policy {
	float := func() float64 { return of(d, []float64{0, 0.25, 0.5, 0.5, 0.5, 0.75, 1, math.NaN()}) }
	pair := func(names []string) func() api.Pair {
		return func() api.Pair { return api.Pair{From: of(d, names), To: of(d, names)} }
	}
	name := func(names []string) func() string { return func() string { return of(d, names) } }
	return api.Policy{
		Actions:  some(d, 6, name(actionNames)),
		Subjects: some(d, 7, func() api.Subject { return api.Subject{Name: of(d, whoNames), Trust: float()} }),
		Roles:    some(d, 2, name(whoNames)),
		Objects:  some(d, 7, name(whatNames)),
		Groups:   some(d, 2, name(whatNames)),
		Members:  some(d, 4, pair(whoNames)),
		Inherits: some(d, 4, pair(whoNames)),
		Parts:    some(d, 4, pair(whatNames)),
		Withins:  some(d, 4, pair(whatNames)),
		Rules: some(d, 14, func() api.Rule {
			return api.Rule{Deny: d.throw(9) == 0, Who: of(d, whoNames), What: of(d, whatNames), Actions: some(d, 2, name(actionNames)), Cond: of(d, []int8{0, 0, 0, 0, 1, 1, 2, 3}), Level: float()}
		}),
		Excepts: some(d, 4, func() api.Triple { return d.triple() }),
	}
}

func (d *dice) triple() api.Triple {
	return api.Triple{Subject: of(d, whoNames), Object: of(d, whatNames), Action: of(d, actionNames)}
}

// unlike is a policy whose subjects, objects and actions stand there once each.
func unlike(p api.Policy) api.Policy {
	byName := func(a, b api.Subject) int { return strings.Compare(a.Name, b.Name) }
	slices.SortFunc(p.Subjects, byName)
	p.Subjects = slices.CompactFunc(p.Subjects, func(a, b api.Subject) bool { return byName(a, b) == 0 })
	slices.Sort(p.Objects)
	slices.Sort(p.Actions)
	p.Objects, p.Actions = slices.Compact(p.Objects), slices.Compact(p.Actions)
	return p
}

// broken is a graph, mostly a policy's, with something changed.
func (d *dice) broken() api.Graph {
	p := d.thrown()
	if d.throw(4) > 0 {
		p = unlike(p)
	}
	g := slowCompile(p)
	for range d.throw(4) {
		d.breakOnce(&g)
	}
	return g
}

func (d *dice) breakOnce(g *api.Graph) {
	number := func() int { return d.throw(6) - 1 }
	switch d.throw(9) {
	case 0:
		g.Of = d.otherNumbers(g.Of, number)
	case 1:
		g.On = d.otherNumbers(g.On, number)
	case 2:
		g.Masks = append(g.Masks, some(d, 3, func() uint16 { return uint16(d.throw(4)) }))
	case 3:
		if len(g.Masks) > 0 {
			g.Masks = g.Masks[:len(g.Masks)-1]
		}
	case 4, 5, 6:
		if len(g.Masks) > 0 {
			d.breakRow(&g.Masks[d.throw(len(g.Masks))])
		}
	case 7:
		g.Subjects = append(g.Subjects, of(d, whoNames))
	case 8:
		g.Actions = append(g.Actions, of(d, actionNames))
	}
}

func (d *dice) otherNumbers(l []int, number func() int) []int {
	if len(l) == 0 || d.throw(3) == 0 {
		return append(l, number())
	}
	if d.throw(3) == 0 {
		return l[1:]
	}
	l[d.throw(len(l))] = number()
	return l
}

func (d *dice) breakRow(row *[]uint16) {
	if len(*row) == 0 || d.throw(5) == 0 {
		*row = append(*row, uint16(d.throw(3)))
		return
	}
	if d.throw(5) == 0 {
		*row = (*row)[1:]
		return
	}
	(*row)[d.throw(len(*row))] = uint16(d.throw(9))
}

func TestAgainstASlowOne(t *testing.T) {
	d := dice(11)
	classes, yes := [8]int{}, 0
	for range 10000 {
		p := d.thrown()
		want := slowCompile(p)
		wantGraph(t, "thrown", p, want)
		wantValid(t, "thrown", want, slowValid(want))
		classes[slowGreatest(want.Of)]++
		for range 8 {
			x := d.triple()
			decided := slowDecide(want, x)
			if got := graph.Decide(want, x); got != decided {
				t.Fatalf("Decide of %+v and %v: %v", want, x, got)
			}
			if decided != mean.Allows(p, x) {
				t.Fatalf("%+v: the graph says of %v: %v", p, x, decided)
			}
			if decided {
				yes++
			}
		}
		if t.Failed() {
			return
		}
	}
	if slices.Min(classes[:5]) < 50 || yes < 500 {
		t.Errorf("classes %v, %d allowed: too few to tell", classes, yes)
	}
}

func TestBrokenGraphsAgainstASlowOne(t *testing.T) {
	d := dice(12)
	good, bad, yes, no := 0, 0, 0, 0
	for range 20000 {
		g := d.broken()
		want := slowValid(g)
		if got := graph.Valid(g); got != want {
			t.Fatalf("Valid of %+v: %v", g, got)
		}
		if want {
			good++
		} else {
			bad++
		}
		for range 4 {
			x := d.triple()
			decided := slowDecide(g, x)
			if got := graph.Decide(g, x); got != decided {
				t.Fatalf("Decide of %+v and %v: %v", g, x, got)
			}
			if decided && !want {
				yes++
			} else if !want {
				no++
			}
		}
	}
	if good < 1000 || bad < 5000 || yes < 500 || no < 5000 {
		t.Errorf("%d valid, %d not; of these %d allowed, %d not: too few to tell", good, bad, yes, no)
	}
}
