package reach

import (
	"slices"
	"strings"

	"gatehouse/api"
)

// web is pairs by numbers: a name's number is its place in the order in which names stand first in the pairs, which is the order that rings are told in.
type web struct {
	names   []string
	numbers map[string]int
	next    [][]int
}

func newWeb(pairs []api.Pair) *web {
	w := &web{numbers: map[string]int{}}
	for _, p := range pairs {
		from, to := w.number(p.From), w.number(p.To)
		w.next[from] = append(w.next[from], to)
	}
	return w
}

// number gives a name that no pair has a number too: it is reached from itself, as each name is.
func (w *web) number(name string) int {
	n, known := w.numbers[name]
	if !known {
		n = len(w.names)
		w.numbers[name] = n
		w.names = append(w.names, name)
		w.next = append(w.next, nil)
	}
	return n
}

// told are names for an answer: their bytes are copied, as the web's names are the pairs' own texts.
func (w *web) told(numbers []int) []string {
	var names []string
	for _, n := range numbers {
		names = append(names, strings.Clone(w.names[n]))
	}
	return names
}

func (w *web) up(from int) []int {
	return Close([]int{from}, func(n int) []int { return w.next[n] })
}

// noReason stands at the names that are not reached.
const noReason = -1

// reasons has the start as its own reason, so that no line back to it gives it another one.
func (w *web) reasons(start int) []int {
	reasons := slices.Repeat([]int{noReason}, len(w.names))
	reasons[start] = start
	Close([]int{start}, func(n int) []int {
		for _, m := range w.next[n] {
			if reasons[m] == noReason {
				reasons[m] = n
			}
		}
		return w.next[n]
	})
	return reasons
}

func (w *web) path(from, to int) []int {
	reasons := w.reasons(from)
	if reasons[to] == noReason {
		return nil
	}
	way := []int{to}
	for n := to; n != from; {
		n = reasons[n]
		way = append(way, n)
	}
	slices.Reverse(way)
	return way
}
