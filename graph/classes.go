package graph

import "gatehouse/api"

// profile has the masks of one thing with all things of the other side, by their places: of a subject with all objects, or of an object with all subjects. Behind the last place there are zeros in all of them, so that two are compared whole.
type profile [api.MaxEach]uint16

// square has the profiles of one side, by their places.
type square [api.MaxEach]profile

// turned has the profiles of the other side.
func (s square) turned() square {
	var other square
	for i, p := range s {
		for j, mask := range p {
			other[j][i] = mask
		}
	}
	return other
}

// only has the masks of these rows and columns.
func (s square) only(rows, columns []int) [][]uint16 {
	var masks [][]uint16
	for _, i := range rows {
		row := make([]uint16, len(columns))
		for y, j := range columns {
			row[y] = s[i][j]
		}
		masks = append(masks, row)
	}
	return masks
}

// classes say of each thing the number of its class, and of each class the place of its first thing.
type classes struct {
	numbers []int
	firsts  []int
}

func classesOf(profiles []profile) classes {
	var c classes
	known := map[profile]int{}
	for i, p := range profiles {
		number, has := known[p]
		if !has {
			c.firsts = append(c.firsts, i)
			number = len(c.firsts)
			known[p] = number
		}
		c.numbers = append(c.numbers, number)
	}
	return c
}

func allUnlike(profiles []profile) bool { return len(classesOf(profiles).firsts) == len(profiles) }
