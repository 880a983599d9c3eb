package epoch

// Section is a read section that begins.
type Section struct {
	row
	slot int
	made int // its steps so far
	seen int // the epoch, as its first step found it
}

// begun is the number of steps with which a section has begun.
const begun = 2

// Step is a step: has it begun now?
func (x *Section) Step() bool {
	switch x.made {
	case 0:
		x.seen = x.now()
		x.made++
	case 1:
		x.put(x.slot, x.seen)
		x.made++
	}
	return x.made == begun
}

// Mark is the epoch that it told; 0, while it has not begun.
func (x *Section) Mark() int {
	if x.made < begun {
		return 0
	}
	return x.seen
}
