package cells

import "gatehouse/api"

// over hands each word of a piece to do, in order; none of them, and ErrAddress, if the piece does not lie within.
func (m *Memory) over(addr, n int, do func(word *int)) api.Errno {
	// not addr + n, which may pass the greatest int
	if addr < 0 || n < 0 || addr > len(m.words)-n {
		return api.ErrAddress
	}
	piece := m.words[addr : addr+n]
	for i := range piece {
		do(&piece[i])
	}
	return api.OK
}

// filling is a number that is put into each word of a piece.
type filling int

func (f filling) put(word *int) { *word = int(f) }

// listing holds the words of a piece, as they are.
type listing []int

func (l *listing) take(word *int) { *l = append(*l, *word) }
