package page

import "gatehouse/api"

// walk goes through a list of words, whatever stands in it, and counts what it has read.
type walk struct {
	words []int
	read  int
}

// word is false, and nothing is read, where the list has no such word.
func (w *walk) word(at int) (int, bool) {
	if at < 0 || at >= len(w.words) {
		return 0, false
	}
	w.read++
	return w.words[at], true
}

// seek is the search for a key: the place at which it ended, how many places it looked at, whether it met the key.
func (w *walk) seek(key, places int) (place, looked int, met bool) {
	place = Hash(key, places)
	for looked < places {
		found, ok := w.word(keyAt(place))
		if !ok {
			return place, looked, false
		}
		looked++
		if found == key || found == 0 {
			return place, looked, found == key
		}
		place = (place + 1) % places
	}
	return place, looked, false
}

// number is what stands beside a key, if it is met.
func (w *walk) number(key, places int) (int, bool) {
	place, _, met := w.seek(key, places)
	if !met {
		return 0, false
	}
	return w.word(numberAt(place))
}

// allows goes as a reader goes: from word to word, and no further than it must.
func (w *walk) allows(subject, object, action int) bool {
	places, ok := w.word(1)
	if !ok || !isTable(places) {
		return false
	}
	var numbers [3]int
	for i, sought := range [3]int{keyOf(subject, kindSubject), keyOf(object, kindObject), keyOf(action, kindAction)} {
		if numbers[i], ok = w.number(sought, places); !ok {
			return false
		}
	}
	columns, _ := w.word(3) // it is there: keys were met behind it
	x, y, z := numbers[0], numbers[1], numbers[2]
	mask, ok := w.word(keyAt(places) + (x-1)*columns + (y - 1))
	return ok && hasBit(mask, z)
}

// hasBit says whether a mask has the bit of the action with this number; a mask that is none may be below 0.
func hasBit(mask, number int) bool {
	return number >= 1 && number <= api.MaxActions && mask>>(number-1)&1 == 1
}
