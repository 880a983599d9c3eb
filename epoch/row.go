package epoch

import (
	"gatehouse/api"
	"gatehouse/cells"
)

// row is what slots, their sections and their grace periods have in common: whose words they are. What stands there is in the memory alone, so that whoever else writes there is heard.
type row struct {
	memory *cells.Memory
	epoch  int // the address of the epoch's word
	first  int // the address of the slot 0
	n      int
}

func (r *row) has(slot int) bool { return slot >= 0 && slot < r.n }

// now is the epoch, by one access; a refused one counts as it comes, here and below.
func (r *row) now() int {
	epoch, _ := r.memory.Load(r.epoch)
	return epoch
}

// raise adds 1 to the epoch, by one access, and answers the new one: that of a refused access, too, is 1 more than what stood there.
func (r *row) raise() int {
	was, _ := r.memory.Add(r.epoch, 1)
	return was + 1
}

// put writes a slot, by one access.
func (r *row) put(slot, mark int) api.Errno { return r.memory.Store(r.first+slot, mark) }

// look is what a slot holds, by one access.
func (r *row) look(slot int) int {
	mark, _ := r.memory.Load(r.first + slot)
	return mark
}

// peek is the same without an access: who only asks leaves no trace. (A poisoned word shows the number that a refused load answers.)
func (r *row) peek(slot int) int {
	words, _ := r.memory.Words(r.first+slot, 1)
	return words[0]
}
