package graph_test

import (
	"math"
	"slices"
	"testing"

	"gatehouse/api"
	"gatehouse/graph"
)

// good is a valid graph of three classes of subjects and two of objects.
func good() api.Graph {
	return made("x y", "a b c d", "o p q", "1 2 1 3", "1 2 1", "1 0", "3 2", "0 0")
}

func TestWhatMakesAGraphInvalid(t *testing.T) {
	wantValid(t, "good", good(), true)
	for what, change := range map[string]func(g *api.Graph){
		"an action twice":                   func(g *api.Graph) { g.Actions[1] = "x" },
		"a subject twice":                   func(g *api.Graph) { g.Subjects[3] = "a" },
		"a subject twice, in one class":     func(g *api.Graph) { g.Subjects[2] = "a" },
		"an object twice":                   func(g *api.Graph) { g.Objects[2] = "p" },
		"an object twice, in one class":     func(g *api.Graph) { g.Objects[2] = "o" },
		"an empty text twice":               func(g *api.Graph) { g.Subjects[0], g.Subjects[3] = "", "" },
		"Of too short":                      func(g *api.Graph) { g.Of = append(g.Of[:2], 3) },
		"Of too short by its last":          func(g *api.Graph) { g.Subjects = append(g.Subjects, "e") },
		"Of too long":                       func(g *api.Graph) { g.Of = append(g.Of, 1) },
		"no Of":                             func(g *api.Graph) { g.Of = nil },
		"On too short":                      func(g *api.Graph) { g.On = g.On[:2] },
		"On too long":                       func(g *api.Graph) { g.On = append(g.On, 2) },
		"no On":                             func(g *api.Graph) { g.On = nil },
		"Of begins at 0":                    func(g *api.Graph) { g.Of = numbers("0 1 2 3") },
		"Of begins at 2":                    func(g *api.Graph) { g.Of = numbers("2 1 1 3") },
		"Of leaps by two":                   func(g *api.Graph) { g.Of = numbers("1 3 2 1") },
		"Of leaps by two at its end":        func(g *api.Graph) { g.Of = numbers("1 1 1 3") },
		"Of has a 0":                        func(g *api.Graph) { g.Of = numbers("1 2 3 0") },
		"Of below 0":                        func(g *api.Graph) { g.Of = numbers("1 2 3 -1") },
		"Of far below 0":                    func(g *api.Graph) { g.Of[3] = math.MinInt },
		"Of far above":                      func(g *api.Graph) { g.Of[3] = math.MaxInt },
		"On begins at 0":                    func(g *api.Graph) { g.On = numbers("0 1 2") },
		"On begins at 2":                    func(g *api.Graph) { g.On = numbers("2 1 2") },
		"On leaps by two":                   func(g *api.Graph) { g.On = numbers("1 3 2") },
		"On has a 0":                        func(g *api.Graph) { g.On = numbers("1 2 0") },
		"On below 0":                        func(g *api.Graph) { g.On = numbers("1 -2 2") },
		"On far below 0":                    func(g *api.Graph) { g.On[0] = math.MinInt },
		"a row too few":                     func(g *api.Graph) { g.Masks = g.Masks[:2] },
		"a row too many":                    func(g *api.Graph) { g.Masks = append(g.Masks, []uint16{0, 1}) },
		"a row too many, without columns":   func(g *api.Graph) { g.Masks = append(g.Masks, nil) },
		"no rows":                           func(g *api.Graph) { g.Masks = nil },
		"a class too few for the rows":      func(g *api.Graph) { g.Of[3] = 2 },
		"a class too few for the columns":   func(g *api.Graph) { g.On[1] = 1 },
		"the first row too short":           func(g *api.Graph) { g.Masks[0] = g.Masks[0][:1] },
		"the last row too short":            func(g *api.Graph) { g.Masks[2] = g.Masks[2][:1] },
		"the last row empty":                func(g *api.Graph) { g.Masks[2] = nil },
		"the first row too long":            func(g *api.Graph) { g.Masks[0] = append(g.Masks[0], 0) },
		"the last row too long":             func(g *api.Graph) { g.Masks[2] = append(g.Masks[2], 0) },
		"all rows too short":                func(g *api.Graph) { g.Masks = rows("1", "3", "0") },
		"all rows too long":                 func(g *api.Graph) { g.Masks = rows("1 0 2", "3 2 0", "0 0 1") },
		"a bit that stands for no action":   func(g *api.Graph) { g.Masks[2][1] = 4 },
		"bit 15, among others":              func(g *api.Graph) { g.Masks[1][1] |= 1 << 15 },
		"an action fewer":                   func(g *api.Graph) { g.Actions = g.Actions[:1] },
		"no actions":                        func(g *api.Graph) { g.Actions = nil },
		"equal rows, the first and last":    func(g *api.Graph) { g.Masks[2] = []uint16{1, 0} },
		"equal rows, one behind the other":  func(g *api.Graph) { g.Masks[1] = []uint16{0, 0} },
		"equal columns":                     func(g *api.Graph) { g.Masks = rows("1 1", "2 2", "0 0") },
		"equal columns and equal rows":      func(g *api.Graph) { g.Masks = rows("1 1", "1 1", "1 1") },
		"all subjects away":                 func(g *api.Graph) { g.Subjects, g.Of = nil, nil },
		"all subjects and all rows away":    func(g *api.Graph) { g.Subjects, g.Of, g.Masks = nil, nil, nil },
		"all objects away":                  func(g *api.Graph) { g.Objects, g.On = nil, nil },
		"all objects and all columns away":  func(g *api.Graph) { g.Objects, g.On, g.Masks = nil, nil, rows("", "", "") },
		"the first subject of a class away": func(g *api.Graph) { g.Subjects, g.Of = g.Subjects[1:], g.Of[1:] },
	} {
		g := good()
		change(&g)
		wantValid(t, what, g, false)
	}
	for what, change := range map[string]func(g *api.Graph){
		"an action more, of no mask":        func(g *api.Graph) { g.Actions = append(g.Actions, "z") },
		"a bit of an action more":           func(g *api.Graph) { g.Actions, g.Masks[0][0] = append(g.Actions, "z"), 7 },
		"one text in three lists":           func(g *api.Graph) { g.Subjects[0], g.Objects[1], g.Actions[1] = "n", "n", "n" },
		"a subject more in the first class": func(g *api.Graph) { g.Subjects, g.Of = append(g.Subjects, "e"), append(g.Of, 1) },
		"an object more in the last class":  func(g *api.Graph) { g.Objects, g.On = append(g.Objects, "r"), append(g.On, 2) },
		"rows that differ in one column":    func(g *api.Graph) { g.Masks = rows("1 0", "1 1", "1 2") },
		"columns that differ in one row":    func(g *api.Graph) { g.Masks = rows("1 1", "2 2", "3 0") },
		"a row that is a column too":        func(g *api.Graph) { g.Masks = rows("1 2", "2 1", "0 3") },
		"texts that are no names":           func(g *api.Graph) { g.Subjects, g.Actions[0] = []string{"", "\xff", "\x00", " "}, "\n" },
	} {
		g := good()
		change(&g)
		wantValid(t, what, g, true)
	}
}

func TestGraphsOfOneSide(t *testing.T) {
	for _, c := range []struct {
		what string
		g    api.Graph
		want bool
	}{
		{"nothing", api.Graph{}, true},
		{"nothing, in lists without elements", api.Graph{Actions: []string{}, Subjects: []string{}, Objects: []string{}, Of: []int{}, On: []int{}, Masks: [][]uint16{}}, true},
		{"actions alone", made("x y", "", "", "", ""), true},
		{"actions alone, twice", made("x x", "", "", "", ""), false},
		{"a row of nobody", made("", "", "", "", "", ""), false},
		{"no objects", made("x", "a b", "", "1 1", "", ""), true},
		{"no objects, the row nil", api.Graph{Subjects: []string{"a"}, Of: []int{1}, Masks: [][]uint16{nil}}, true},
		{"no objects, the row without elements", api.Graph{Subjects: []string{"a"}, Of: []int{1}, Masks: [][]uint16{{}}}, true},
		{"no objects, no row", made("x", "a b", "", "1 1", ""), false},
		{"no objects, a column", made("x", "a b", "", "1 1", "", "0"), false},
		{"no objects, two classes: their rows are equal", made("x", "a b", "", "1 2", "", "", ""), false},
		{"no objects, two rows for one class", made("x", "a b", "", "1 1", "", "", ""), false},
		{"no subjects", made("x", "", "o p", "", "1 1"), true},
		{"no subjects, a row", made("x", "", "o p", "", "1 1", "0"), false},
		{"no subjects, a row without columns", made("x", "", "o p", "", "1 1", ""), false},
		{"no subjects, two columns: without rows they are equal", made("x", "", "o p", "", "1 2"), false},
		{"no subjects, three columns", made("x", "", "o p q", "", "1 2 3"), false},
		{"no actions", made("", "a b", "o", "1 1", "1", "0"), true},
		{"no actions, a bit", made("", "a b", "o", "1 1", "1", "1"), false},
		{"no actions, two classes", made("", "a b", "o", "1 2", "1", "0", "0"), false},
		{"two columns of one row, equal", made("x", "a", "o p", "1", "1 2", "1 1"), false},
		{"two columns of one row, unlike", made("x", "a", "o p", "1", "1 2", "1 0"), true},
		{"numbers without names", made("x", "", "", "1", "1", "1"), false},
		{"names without numbers", made("x", "a", "o", "", ""), false},
	} {
		wantValid(t, c.what, c.g, c.want)
	}
}

func TestLimitsOfGraphs(t *testing.T) {
	full := graph.Compile(many(16, 64, 64))
	wantValid(t, "64 classes by 64, 16 actions", full, true)
	with := func(change func(g *api.Graph)) api.Graph {
		g := graph.Compile(many(16, 64, 64))
		change(&g)
		return g
	}
	wantValid(t, "17 actions", with(func(g *api.Graph) { g.Actions = append(g.Actions, "z") }), false)
	wantValid(t, "65 subjects", with(func(g *api.Graph) { g.Subjects, g.Of = append(g.Subjects, "z"), append(g.Of, 1) }), false)
	wantValid(t, "65 objects", with(func(g *api.Graph) { g.Objects, g.On = append(g.Objects, "z"), append(g.On, 1) }), false)
	wantValid(t, "all bits", with(func(g *api.Graph) { g.Masks[63][63] = 65535 }), true)
	wantValid(t, "15 actions and bit 15", with(func(g *api.Graph) { g.Actions = g.Actions[:15] }), false)
	wantValid(t, "the last two rows equal", with(func(g *api.Graph) { g.Masks[63] = slices.Clone(g.Masks[62]) }), false)
	wantValid(t, "the first and the last column equal", with(func(g *api.Graph) {
		for x := range g.Masks {
			g.Masks[x][63] = g.Masks[x][0]
		}
		g.Masks[63][1] = 7 // else the last row would be empty
	}), false)
	wantValid(t, "the last two rows differ at the last place", with(func(g *api.Graph) {
		g.Masks[62] = slices.Clone(g.Masks[63])
		g.Masks[62][63] = 1
		g.Masks[5][62] = 9 // else two columns would be empty
	}), true)

	wantValid(t, "16 actions alone", api.Graph{Actions: numbered("a", 16)}, true)
	wantValid(t, "17 actions alone", api.Graph{Actions: numbered("a", 17)}, false)
	for n, want := range map[int]bool{63: true, 64: true, 65: false, 90: false} {
		names, ones := numbered("n", n), slices.Repeat([]int{1}, n)
		wantValid(t, "subjects alone", api.Graph{Subjects: names, Of: ones, Masks: rows("")}, want)
		wantValid(t, "objects alone", api.Graph{Objects: names, On: ones}, want)
	}
	far := make([]int, 100000)
	for i := range far {
		far[i] = i + 1
	}
	wantValid(t, "far too many numbers", api.Graph{Of: far, On: far, Masks: make([][]uint16, 100000)}, false)
	wantValid(t, "far too many texts", api.Graph{Subjects: make([]string, 100000), Of: far, Masks: make([][]uint16, 100000)}, false)
	wantValid(t, "a row that is far too long", with(func(g *api.Graph) { g.Masks[0] = make([]uint16, 100000) }), false)
}
