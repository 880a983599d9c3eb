package reach

import (
	"cmp"
	"slices"
)

// rings are in the order of their first names, each ring's names in their own.
func (w *web) rings() [][]int {
	rings := slices.DeleteFunc(w.parts(), w.isAlone)
	for _, ring := range rings {
		slices.Sort(ring)
	}
	slices.SortFunc(rings, func(a, b []int) int { return cmp.Compare(a[0], b[0]) })
	return rings
}

// isAlone: a part of one name is a ring only with a pair from that name to itself.
func (w *web) isAlone(part []int) bool {
	return len(part) == 1 && !slices.Contains(w.next[part[0]], part[0])
}

// parts are all names, those in one part that reach one another. No other part leads to the name that a walk leaves last, so that what leads to it is its own part; that one taken out, the same holds of the name left last among the others. (To ask of each name whom it reaches would take a time that grows with the square of the pairs.)
func (w *web) parts() [][]int {
	ahead := w.turned()
	taken := make([]bool, len(w.names))
	var parts [][]int
	for _, n := range slices.Backward(w.left()) {
		if taken[n] {
			continue
		}
		part := Close([]int{n}, func(n int) []int {
			return slices.DeleteFunc(slices.Clone(ahead[n]), func(m int) bool { return taken[m] })
		})
		for _, m := range part {
			taken[m] = true
		}
		parts = append(parts, part)
	}
	return parts
}

// turned are the lines the other way round: for each name those that lead to it.
func (w *web) turned() [][]int {
	ahead := make([][]int, len(w.names))
	for from, next := range w.next {
		for _, to := range next {
			ahead[to] = append(ahead[to], from)
		}
	}
	return ahead
}

// left are all names in the order in which a walk into the depth leaves them.
func (w *web) left() []int {
	k := walk{next: w.next, looked: make([]int, len(w.names)), met: make([]bool, len(w.names))}
	for n := range w.names {
		k.from(n)
	}
	return k.left
}

// walk keeps the way on which it is in a list of its own: a call within a call for each name would be as deep as the pairs are long.
type walk struct {
	next   [][]int
	looked []int
	met    []bool
	way    []int
	left   []int
}

func (k *walk) from(n int) {
	k.enter(n)
	for len(k.way) > 0 {
		k.step()
	}
}

func (k *walk) enter(n int) {
	if !k.met[n] {
		k.met[n] = true
		k.way = append(k.way, n)
	}
}

// step looks at one more of the next ones of the name where the walk is, or leaves this name, if there is none.
func (k *walk) step() {
	here := k.way[len(k.way)-1]
	i := k.looked[here]
	if i == len(k.next[here]) {
		k.way = k.way[:len(k.way)-1]
		k.left = append(k.left, here)
		return
	}
	k.looked[here]++
	k.enter(k.next[here][i])
}
