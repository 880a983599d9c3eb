package diff_test

import (
	"slices"
	"testing"

	"gatehouse/api"
	"gatehouse/diff"
	"gatehouse/mean"
)

// What follows (promise 13.5), held against the answers alone.

type set map[api.Triple]bool

func setOf(l []api.Triple) set {
	s := set{}
	for _, x := range l {
		s[x] = true
	}
	return s
}

func (s set) equal(o set) bool {
	for x := range s {
		if !o[x] {
			return false
		}
	}
	return len(s) == len(o)
}

// change does one change, and says whether it can be: what is lost was there, what is gained was not.
func (s set) change(c api.Change) bool {
	can := s[c.Triple] != c.Gained
	if c.Gained {
		s[c.Triple] = true
	} else {
		delete(s, c.Triple)
	}
	return can
}

// turned has each change turned about, whatever the order.
func turned(l []api.Change) map[api.Change]bool {
	m := map[api.Change]bool{}
	for _, c := range l {
		m[api.Change{Triple: c.Triple, Gained: !c.Gained}] = true
	}
	return m
}

func wantWhatFollows(t *testing.T, p, q api.Policy) {
	t.Helper()
	changes, backwards := diff.List(p, q), diff.List(q, p)
	now, goal := setOf(mean.Relation(p)), setOf(mean.Relation(q))
	for _, c := range changes {
		if !now.change(c) {
			t.Errorf("%+v can't be", c)
		}
	}
	if !now.equal(goal) {
		t.Errorf("the changes %q lead to %v, not to %v", written(changes), now, goal)
	}
	if equal := setOf(mean.Relation(p)).equal(goal); diff.Same(p, q) != equal || (len(changes) == 0) != equal {
		t.Errorf("Same says %v, and there are %d changes", diff.Same(p, q), len(changes))
	}
	about := turned(changes)
	for _, c := range backwards {
		if !about[c] {
			t.Errorf("backwards there is %+v, which is not there forwards", c)
		}
	}
	if len(backwards) != len(about) || len(about) != len(changes) {
		t.Errorf("%d changes, and backwards %d", len(changes), len(backwards))
	}
	if t.Failed() {
		t.Fatalf("from %+v to %+v", p, q)
	}
}

func TestWhatFollows(t *testing.T) {
	wantWhatFollows(t, load(t, firstText), load(t, secondText))
	wantWhatFollows(t, load(t, house), load(t, firstText))
	wantWhatFollows(t, api.Policy{}, load(t, firstText))
	d := dice(135)
	for range 3000 {
		p := d.thrown()
		wantWhatFollows(t, p, d.another(p))
		wantWhatFollows(t, p, d.thrown())
		wantWhatFollows(t, p, p)
	}
}

// sides are each triple's changes along a chain, one behind the other: gained or not.
func sides(lists [][]api.Change) map[api.Triple][]bool {
	m := map[api.Triple][]bool{}
	for _, l := range lists {
		for _, c := range l {
			m[c.Triple] = append(m[c.Triple], c.Gained)
		}
	}
	return m
}

func inTurns(l []bool) bool {
	for i := 1; i < len(l); i++ {
		if l[i] == l[i-1] {
			return false
		}
	}
	return true
}

func wantTurns(t *testing.T, row []api.Policy) (longest int) {
	t.Helper()
	first, last := row[0], row[len(row)-1]
	left := map[api.Change]bool{}
	for x, l := range sides(diff.Chain(first, row[1:]...)) {
		if !inTurns(l) || l[0] == mean.Allows(first, x) || l[len(l)-1] != mean.Allows(last, x) {
			t.Errorf("%v is gained and lost: %v", x, l)
		}
		if len(l)%2 == 1 {
			left[api.Change{Triple: x, Gained: l[0]}] = true
		}
		longest = max(longest, len(l))
	}
	whole := diff.List(first, last)
	for _, c := range whole {
		if !left[c] {
			t.Errorf("%+v is not left by the chain", c)
		}
	}
	if len(left) != len(whole) {
		t.Errorf("the chain leaves %d changes, and there are %d", len(left), len(whole))
	}
	if t.Failed() {
		t.Fatalf("%+v", row)
	}
	return longest
}

func TestWhatIsLeftOfAChain(t *testing.T) {
	a, b := load(t, firstText), load(t, secondText)
	for _, row := range [][]api.Policy{{a}, {a, b}, {a, b, a}, {a, b, a, {}}, {{}, a, {}, b, {}, a}, {a, a, a}} {
		wantTurns(t, row)
	}
	d := dice(136)
	long := 0
	for range 800 {
		row := []api.Policy{d.thrown()}
		for range d.throw(8) {
			row = append(row, d.another(row[0]))
		}
		if wantTurns(t, row) > 2 {
			long++
		}
	}
	if long < 50 {
		t.Errorf("%d chains only in which a triple changes more than twice", long)
	}
}

func TestWhatIsLeftOfAllSmallChains(t *testing.T) {
	// one of eight policies of one relation, another one each time
	all := smallest()
	at := func(n, turn int) api.Policy { return all[n*8+turn%8] }
	for i := range 16 {
		for j := range 16 {
			for k := range 16 {
				wantTurns(t, []api.Policy{at(i, j), at(j, k), at(k, i)})
			}
		}
	}
}

// The lists of one chain stand for themselves: each is what List says.
func TestAChainIsItsLists(t *testing.T) {
	d := dice(137)
	for range 500 {
		row := []api.Policy{d.thrown()}
		for range 4 {
			row = append(row, d.another(row[0]))
		}
		for i, l := range diff.Chain(row[0], row[1:]...) {
			if !slices.Equal(l, diff.List(row[i], row[i+1])) {
				t.Fatalf("%d: %+v", i, row)
			}
		}
	}
}
