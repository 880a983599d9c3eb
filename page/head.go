package page

import (
	"slices"

	"gatehouse/api"
)

// head is what a page begins with: the version, the places of the table, the rows and the columns of masks.
type head [4]int

func (h head) version() int { return h[0] }
func (h head) places() int  { return h[1] }
func (h head) rows() int    { return h[2] }
func (h head) columns() int { return h[3] }

// masks is where the masks begin.
func (h head) masks() int { return keyAt(h.places()) }

func (h head) size() int { return h.masks() + h.rows()*h.columns() }

// keyAt is where the key of a place stands.
func keyAt(place int) int { return len(head{}) + 2*place }

// numberAt is where the number beside that key stands.
func numberAt(place int) int { return keyAt(place) + 1 }

func headOf(version int, g api.Graph) head {
	keys := len(g.Actions) + len(g.Subjects) + len(g.Objects)
	return head{version, placesFor(keys), greatest(g.Of), greatest(g.On)}
}

func headAt(words []int) (head, bool) {
	if len(words) < len(head{}) {
		return head{}, false
	}
	return head(words[:len(head{})]), true
}

// heads says whether a list of so many words may begin so.
func (h head) heads(words int) bool {
	return isVersion(h.version()) && h.hasTable(words) && isClasses(h.rows()) && isClasses(h.columns()) && h.size() == words
}

// hasTable says whether a list of so many words has the whole table. The places are asked first: what they say may be too great to be reckoned with.
func (h head) hasTable(words int) bool { return isTable(h.places()) && words >= h.masks() }

// placesFor leaves at least half of the places empty, so that each search ends soon.
func placesFor(keys int) int {
	places := 2
	for places < 2*keys {
		places *= 2
	}
	return places
}

func isTable(places int) bool {
	return places >= 2 && places <= api.MaxTable && places&(places-1) == 0
}

func isVersion(n int) bool { return n >= 1 && n <= api.MaxVersion }

func isClasses(n int) bool { return n >= 0 && n <= api.MaxEach }

func greatest(numbers []int) int { return slices.Max(append([]int{0}, numbers...)) }
