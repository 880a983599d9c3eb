package page

import (
	"cmp"
	"slices"
	"strings"

	"gatehouse/api"
	"gatehouse/graph"
	"gatehouse/names"
)

// graphAt is the graph that a list of words tells whose head may be; false, if the list is not well laid.
func graphAt(words []int, h head, x *names.Index[string]) (api.Graph, bool) {
	keys, ok := keysAt(words, h.places(), x)
	if !ok {
		return api.Graph{}, false
	}
	actions, subjects, objects := ofKind(keys, kindAction), ofKind(keys, kindSubject), ofKind(keys, kindObject)
	slices.SortFunc(actions, func(a, b key) int { return cmp.Compare(a.number, b.number) })
	of, ok1 := renumbered(subjects, h.rows())
	on, ok2 := renumbered(objects, h.columns())
	if !ok1 || !ok2 || !inTurn(actions) {
		return api.Graph{}, false
	}
	g := api.Graph{Actions: namesAt(actions, x), Subjects: namesAt(subjects, x), Objects: namesAt(objects, x), Of: of.numbers, On: on.numbers}
	g.Masks, ok = masksAt(words[h.masks():], of.order, on.order)
	if !ok || !graph.Valid(g) { // which has left: how many names there may be, masks with bits that stand for no action, equal rows, equal columns
		return api.Graph{}, false
	}
	return g, true
}

// keysAt are the keys of a table, rising; false, if it could not have come of putting keys that the index knows into just so many places.
func keysAt(words []int, places int, x *names.Index[string]) ([]key, bool) {
	var keys []key
	var at []int
	for place := range places {
		k := key{words[keyAt(place)], words[numberAt(place)]}
		if k == (key{}) {
			continue
		}
		if !known(k, x) {
			return nil, false
		}
		keys, at = append(keys, k), append(at, place)
	}
	if placesFor(len(keys)) != places { // asked first, as a search in a full table is long
		return nil, false
	}
	w := walk{words: words}
	for i, k := range keys {
		if place, _, _ := w.seek(k.word, places); place != at[i] {
			return nil, false
		}
	}
	slices.SortFunc(keys, func(a, b key) int { return cmp.Compare(a.word, b.word) })
	return keys, true
}

// known says whether a key is one, and of a name that the index has.
func known(k key, x *names.Index[string]) bool {
	_, has := x.At(k.symbol())
	return has && isKind(k.kind())
}

func ofKind(keys []key, kind int8) []key {
	var some []key
	for _, k := range keys {
		if k.kind() == kind {
			some = append(some, k)
		}
	}
	return some
}

// inTurn says whether the keys have the numbers from 1 on, each once.
func inTurn(keys []key) bool {
	for i, k := range keys {
		if k.number != i+1 {
			return false
		}
	}
	return true
}

func namesAt(keys []key, x *names.Index[string]) []string {
	var list []string
	for _, k := range keys {
		name, _ := x.At(k.symbol())
		list = append(list, strings.Clone(name))
	}
	return list
}

// classes are those of one side, numbered anew: the number of each name, in order, and the number that each class has on the page.
type classes struct {
	numbers []int
	order   []int
}

// renumbered numbers the classes in the order in which they come first; false, if the page's numbers are not those from 1 to many, each of them some name's.
func renumbered(keys []key, many int) (classes, bool) {
	var c classes
	for _, k := range keys {
		if k.number < 1 || k.number > many {
			return classes{}, false
		}
		class := slices.Index(c.order, k.number) + 1
		if class == 0 {
			c.order = append(c.order, k.number)
			class = len(c.order)
		}
		c.numbers = append(c.numbers, class)
	}
	return c, len(c.order) == many
}

// masksAt are the masks of these rows and columns; false, if one is no mask of sixteen actions.
func masksAt(words []int, rows, columns []int) ([][]uint16, bool) {
	var masks [][]uint16
	for _, x := range rows {
		row := make([]uint16, len(columns))
		for i, y := range columns {
			word := words[(x-1)*len(columns)+(y-1)]
			row[i] = uint16(word)
			if int(row[i]) != word {
				return nil, false
			}
		}
		masks = append(masks, row)
	}
	return masks, true
}
