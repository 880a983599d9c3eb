package graph

import (
	"slices"

	"gatehouse/api"
	"gatehouse/bits"
)

// numbered says whether classes have their numbers from 1 on, in the order in which they come first.
func numbered(numbers []int) bool {
	greatest := 0
	for _, class := range numbers {
		if class < 1 || class > greatest+1 {
			return false
		}
		greatest = max(greatest, class)
	}
	return true
}

// howMany classes have these numbers, each of them one at least.
func howMany(numbers []int) int { return slices.Max(append([]int{0}, numbers...)) }

// masked says whether the masks of a graph, whose names and classes may be, may be too.
func masked(g api.Graph) bool {
	rows, columns := howMany(g.Of), howMany(g.On)
	if len(g.Masks) != rows {
		return false
	}
	known := bitsOf(g.Actions)
	var bySubject square
	for x, row := range g.Masks {
		if len(row) != columns || slices.ContainsFunc(row, func(mask uint16) bool { return mask&^known != 0 }) {
			return false
		}
		copy(bySubject[x][:], row)
	}
	byObject := bySubject.turned() // has all columns also where there are no rows: they are equal then
	return allUnlike(bySubject[:rows]) && allUnlike(byObject[:columns])
}

// bitsOf are the bits that stand for actions.
func bitsOf(actions []string) uint16 {
	var mask uint16
	for k := range actions {
		mask |= bits.Mask(k)
	}
	return mask
}
