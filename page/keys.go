package page

import (
	"strings"

	"gatehouse/api"
	"gatehouse/names"
)

// The kinds of keys.
const (
	kindSubject int8 = 1
	kindObject  int8 = 2
	kindAction  int8 = 3
)

// key is what stands at a place of a table, and the number beside it.
type key struct {
	word, number int
}

func isKind(kind int8) bool { return kind >= kindSubject && kind <= kindAction }

func keyOf(symbol int, kind int8) int { return symbol*4 + int(kind) }

func (k key) symbol() int { return k.word / 4 }
func (k key) kind() int8  { return int8(k.word % 4) }

// newNames is how many names of a graph have no number yet; a name that names several things is one.
func newNames(g api.Graph, x *names.Index[string]) int {
	fresh := map[string]struct{}{}
	for _, list := range [][]string{g.Actions, g.Subjects, g.Objects} {
		for _, name := range list {
			if _, known := x.Find(name); !known {
				fresh[name] = struct{}{}
			}
		}
	}
	return len(fresh)
}

// keysOf are a graph's keys in the order in which they are put; its names get their numbers in that order.
func keysOf(g api.Graph, x *names.Index[string]) []key {
	var keys []key
	for k, name := range g.Actions {
		keys = append(keys, key{keyOf(symbolOf(name, x), kindAction), k + 1})
	}
	for i, name := range g.Subjects {
		keys = append(keys, key{keyOf(symbolOf(name, x), kindSubject), g.Of[i]})
	}
	for j, name := range g.Objects {
		keys = append(keys, key{keyOf(symbolOf(name, x), kindObject), g.On[j]})
	}
	return keys
}

// symbolOf hands the index a copy, as an index keeps what it is given.
func symbolOf(name string, x *names.Index[string]) int {
	if n, known := x.Find(name); known {
		return n
	}
	return x.Of(strings.Clone(name))
}

// put puts a key where the search for it meets an empty place.
func put(words []int, places int, k key) {
	w := walk{words: words}
	place, _, _ := w.seek(k.word, places)
	words[keyAt(place)], words[numberAt(place)] = k.word, k.number
}

// putMasks puts a graph's masks one behind the other, row by row.
func putMasks(words []int, g api.Graph) {
	at := 0
	for _, row := range g.Masks {
		for _, mask := range row {
			words[at] = int(mask)
			at++
		}
	}
}
