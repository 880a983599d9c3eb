package page_test

import (
	"math"
	"slices"
	"testing"

	"gatehouse/api"
	"gatehouse/graph"
	"gatehouse/names"
	"gatehouse/page"
)

// A second reckoning, which reads the chapter's words as they stand.

func slowTable(n int) bool {
	for places := 2; places <= 4096; places += places {
		if n == places {
			return true
		}
	}
	return false
}

// slowPlaces is T for so many keys.
func slowPlaces(keys int) int {
	for places := 2; ; places++ {
		if slowTable(places) && places >= 2*keys {
			return places
		}
	}
}

// slowSearch answers the places that are looked at, in order; met: whether the last one has the key.
func slowSearch(table [][2]int, key int) (looked []int, met bool) {
	first := slowHash(key, len(table))
	for _, i := range slices.Concat(rising(first, len(table)), rising(0, first)) {
		looked = append(looked, i)
		if table[i][0] == key {
			return looked, true
		}
		if table[i][0] == 0 {
			return looked, false
		}
	}
	return looked, false
}

func rising(from, to int) []int {
	var l []int
	for i := from; i < to; i++ {
		l = append(l, i)
	}
	return l
}

// slowSplit is a list's table, and what stands behind it; nil, if it has none.
func slowSplit(words []int) (table [][2]int, masks []int) {
	if len(words) < 4 || !slowTable(words[1]) || len(words) < 4+2*words[1] {
		return nil, nil
	}
	rest := words[4:]
	for range words[1] {
		table = append(table, [2]int{rest[0], rest[1]})
		rest = rest[2:]
	}
	return table, rest
}

func slowLook(words []int, symbol int, kind int8) (int, int) {
	table, _ := slowSplit(words)
	if table == nil || kind != 1 && kind != 2 && kind != 3 {
		return 0, 0
	}
	looked, met := slowSearch(table, symbol*4+int(kind))
	if !met {
		return 0, len(looked)
	}
	return table[looked[len(looked)-1]][1], len(looked)
}

// slowDecide tells each word that it reads; a word that the list does not have ends it by a panic.
func slowDecide(words []int, symbols [3]int) (yes bool, read int) {
	type end struct{}
	defer func() {
		if _, over := recover().(end); over {
			yes = false
		}
	}()
	word := func(at int) int {
		for i, w := range words {
			if i == at {
				read++
				return w
			}
		}
		panic(end{})
	}
	size := word(1)
	if !slowTable(size) {
		return false, read
	}
	var found [3]int
	for k, symbol := range symbols {
		key, met := symbol*4+k+1, false
		for n := 0; n < size && !met; n++ {
			place := (slowHash(key, size) + n) % size
			switch word(4 + 2*place) {
			case key:
				found[k], met = word(5+2*place), true
			case 0:
				return false, read
			}
		}
		if !met {
			return false, read
		}
	}
	columns := word(3)
	mask := word(4 + 2*size + (found[0]-1)*columns + (found[1] - 1))
	for z := range 16 {
		if found[2] == z+1 {
			return uint64(mask)/uint64(math.Pow(2, float64(z)))%2 == 1, read
		}
	}
	return false, read
}

// slowLay is for a graph that is valid, with an index that has room.
func slowLay(version int, g api.Graph, x *names.Index[string]) []int {
	greatest := func(l []int) int { return slices.Max(append([]int{0}, l...)) }
	table := make([][2]int, slowPlaces(len(g.Actions)+len(g.Subjects)+len(g.Objects)))
	lay := func(list []string, kind int, number func(int) int) {
		for i, name := range list {
			key := x.Of(name)*4 + kind
			looked, _ := slowSearch(table, key)
			table[looked[len(looked)-1]] = [2]int{key, number(i)}
		}
	}
	lay(g.Actions, 3, func(k int) int { return k + 1 })
	lay(g.Subjects, 1, func(i int) int { return g.Of[i] })
	lay(g.Objects, 2, func(j int) int { return g.On[j] })
	words := []int{version, len(table), greatest(g.Of), greatest(g.On)}
	for _, place := range table {
		words = append(words, place[0], place[1])
	}
	for x := range words[2] {
		for y := range words[3] {
			words = append(words, int(g.Masks[x][y]))
		}
	}
	return words
}

// slowKey is a key of a page, taken apart.
type slowKey struct{ symbol, number int }

// slowKeys are a table's keys by their kinds; false, if a place is not as it must be.
func slowKeys(words []int, table [][2]int, x *names.Index[string]) (keys [4][]slowKey, ok bool) {
	for i, place := range table {
		if place == [2]int{} {
			continue
		}
		if place[0] <= 0 || place[0]%4 == 0 {
			return keys, false
		}
		symbol, kind := place[0]/4, place[0]%4
		if _, has := x.At(symbol); !has {
			return keys, false
		}
		number, n := slowLook(words, symbol, int8(kind))
		looked, met := slowSearch(table, place[0])
		if !met || number != place[1] || looked[n-1] != i {
			return keys, false
		}
		keys[kind] = append(keys[kind], slowKey{symbol, number})
	}
	return keys, true
}

// slowEach says whether the numbers are from 1 to n, and each of these is one's.
func slowEach(keys []slowKey, n int) bool {
	for _, k := range keys {
		if k.number < 1 || k.number > n {
			return false
		}
	}
	for number := 1; number <= n; number++ {
		if !slices.ContainsFunc(keys, func(k slowKey) bool { return k.number == number }) {
			return false
		}
	}
	return true
}

func slowMasks(rows [][]int, columns, actions int) bool {
	turned := make([][]int, columns)
	for x, row := range rows {
		for y, mask := range row {
			if mask < 0 || mask > 1<<actions-1 {
				return false
			}
			turned[y] = append(turned[y], mask)
		}
		for _, other := range rows[:x] {
			if slices.Equal(row, other) {
				return false
			}
		}
	}
	for y, column := range turned {
		for _, other := range turned[:y] {
			if slices.Equal(column, other) {
				return false
			}
		}
	}
	return true
}

// slowRead: false, if the list is not well laid.
func slowRead(words []int, x *names.Index[string]) (api.Graph, bool) {
	table, masks := slowSplit(words)
	if table == nil || words[0] < 1 || words[0] > 1<<31-1 || words[2] < 0 || words[2] > 64 || words[3] < 0 || words[3] > 64 || len(masks) != words[2]*words[3] {
		return api.Graph{}, false
	}
	keys, ok := slowKeys(words, table, x)
	actions, subjects, objects := keys[3], keys[1], keys[2]
	if !ok || len(table) != slowPlaces(len(actions)+len(subjects)+len(objects)) {
		return api.Graph{}, false
	}
	if len(actions) > 16 || len(subjects) > 64 || len(objects) > 64 || !slowEach(actions, len(actions)) || !slowEach(subjects, words[2]) || !slowEach(objects, words[3]) {
		return api.Graph{}, false
	}
	rows := make([][]int, words[2])
	for i := range rows {
		rows[i] = masks[i*words[3]:][:words[3]]
	}
	if !slowMasks(rows, words[3], len(actions)) {
		return api.Graph{}, false
	}
	return slowGraph(actions, subjects, objects, rows, x), true
}

func slowGraph(actions, subjects, objects []slowKey, rows [][]int, x *names.Index[string]) api.Graph {
	slices.SortFunc(actions, func(a, b slowKey) int { return a.number - b.number })
	bySymbol := func(a, b slowKey) int { return a.symbol - b.symbol }
	slices.SortFunc(subjects, bySymbol)
	slices.SortFunc(objects, bySymbol)
	texts := func(keys []slowKey) []string {
		var l []string
		for _, k := range keys {
			name, _ := x.At(k.symbol)
			l = append(l, name)
		}
		return l
	}
	g := api.Graph{Actions: texts(actions), Subjects: texts(subjects), Objects: texts(objects)}
	var left, top []int // the page's numbers, in the order in which they come first
	g.Of, left = slowClasses(subjects)
	g.On, top = slowClasses(objects)
	for _, x := range left {
		var row []uint16
		for _, y := range top {
			row = append(row, uint16(rows[x-1][y-1]))
		}
		g.Masks = append(g.Masks, row)
	}
	return g
}

func slowClasses(keys []slowKey) (classes, first []int) {
	for _, k := range keys {
		if !slices.Contains(first, k.number) {
			first = append(first, k.number)
		}
		classes = append(classes, 1+slices.Index(first, k.number))
	}
	return classes, first
}

// dice is a row of numbers that is the same in each run.
type dice uint64

func (d *dice) throw(n int) int {
	*d = *d*6364136223846793005 + 1442695040888963407
	return int(uint64(*d>>33) % uint64(n))
}

// of is one of several things.
func of[T any](d *dice, things []T) T { return things[d.throw(len(things))] }

// mixed are some of the names, in any order.
func (d *dice) mixed(most int, list []string) []string {
	var l []string
	for _, name := range list {
		l = slices.Insert(l, d.throw(len(l)+1), name)
	}
	return l[:d.throw(min(most, len(l))+1)]
}

var thrownNames = []string{"ann", "bob", "cat", "door", "n1", "n2", "n3", "n4", "n5", "open", "read", "safe", "x"}

// graph is a valid one: of few classes or many, a name naming several things or not.
func (d *dice) graph() api.Graph {
	g := api.Graph{Actions: d.mixed(6, thrownNames), Subjects: d.mixed(8, thrownNames), Objects: d.mixed(8, thrownNames)}
	rows, columns := 1+d.throw(4), 1+d.throw(4)
	var masks [4][4]uint16
	for x := range masks {
		for y := range masks[x] {
			masks[x][y] = uint16(d.throw(1 << min(len(g.Actions), 1+d.throw(6))))
		}
	}
	whole := make([][]uint16, len(g.Subjects))
	on := make([]int, len(g.Objects))
	for j := range on {
		on[j] = d.throw(columns)
	}
	for i := range whole {
		x := d.throw(rows)
		for _, y := range on {
			whole[i] = append(whole[i], masks[x][y])
		}
	}
	return classed(g, whole)
}

// classed gives a graph its classes and masks, from the masks of each subject with each object.
func classed(g api.Graph, whole [][]uint16) api.Graph {
	var firstSubjects, firstObjects []int
	for i := range g.Subjects {
		class := slices.IndexFunc(firstSubjects, func(f int) bool { return slices.Equal(whole[f], whole[i]) })
		if class < 0 {
			class, firstSubjects = len(firstSubjects), append(firstSubjects, i)
		}
		g.Of = append(g.Of, class+1)
	}
	column := func(j int) []uint16 {
		var l []uint16
		for i := range whole {
			l = append(l, whole[i][j])
		}
		return l
	}
	for j := range g.Objects {
		class := slices.IndexFunc(firstObjects, func(f int) bool { return slices.Equal(column(f), column(j)) })
		if class < 0 {
			class, firstObjects = len(firstObjects), append(firstObjects, j)
		}
		g.On = append(g.On, class+1)
	}
	for _, i := range firstSubjects {
		var row []uint16
		for _, j := range firstObjects {
			row = append(row, whole[i][j])
		}
		g.Masks = append(g.Masks, row)
	}
	return g
}

// index has some names already, in any order.
func (d *dice) index() *names.Index[string] {
	x := names.NewIndex[string]()
	if d.throw(3) > 0 {
		for _, name := range d.mixed(20, append([]string{"other", "more", "yet more"}, thrownNames...)) {
			x.Of(name)
		}
	}
	return x
}

func copied(x *names.Index[string]) *names.Index[string] {
	y := names.NewIndex[string]()
	for _, name := range x.All() {
		y.Of(name)
	}
	return y
}

func TestLayAgainstASlowOne(t *testing.T) {
	d := dice(21)
	tables := map[int]int{}
	for range 6000 {
		g, x, version := d.graph(), d.index(), 1+d.throw(api.MaxVersion)
		if !graph.Valid(g) {
			t.Fatalf("%+v is not valid", g)
		}
		y := copied(x)
		want := slowLay(version, g, y)
		got, e := page.Lay(version, g, x)
		if !slices.Equal(got, want) || e != api.OK || !slices.Equal(all(x), all(y)) {
			t.Fatalf("Lay(%d, %+v): %v, %d, want %v; %v, want %v", version, g, got, e, want, all(x), all(y))
		}
		if size := page.Size(g); size != len(want) {
			t.Fatalf("Size of %+v: %d, want %d", g, size, len(want))
		}
		tables[want[1]]++
	}
	if len(tables) < 6 {
		t.Errorf("%v: too few tables to tell", tables)
	}
}

// word is of any kind, mostly one that makes some sense on a page.
func (d *dice) word() int {
	switch d.throw(8) {
	case 0, 1:
		return d.throw(4)
	case 2, 3:
		return 4 + d.throw(60)
	case 4:
		return of(d, []int{2, 4, 8, 16, 32, 64, 3, 1})
	case 5:
		return 0
	case 6:
		return -d.throw(20)
	}
	return of(d, []int{math.MinInt, math.MaxInt, 1 << 62, 65535, 65536, 4096, 8192, 64, 65, 1<<31 - 1, 1 << 31, api.Poison})
}

// broken is a page with something changed, or words that are none.
func (d *dice) broken(words []int) []int {
	words = slices.Clone(words)
	for range d.throw(4) {
		switch d.throw(9) {
		case 0:
			words = words[:len(words)-d.throw(min(6, len(words)+1))]
		case 1:
			words = append(words, d.word())
		case 2, 3, 4:
			if len(words) > 0 {
				words[d.throw(len(words))] = d.word()
			}
		case 5, 6: // the head alone
			if len(words) > 0 {
				words[d.throw(min(4, len(words)))] = d.word()
			}
		case 7: // two words changed about
			if len(words) > 0 {
				i, j := d.throw(len(words)), d.throw(len(words))
				words[i], words[j] = words[j], words[i]
			}
		case 8: // two places of the table changed about
			if n := (len(words) - 4) / 2; n > 0 {
				i, j := 4+2*d.throw(n), 4+2*d.throw(n)
				words[i], words[j], words[i+1], words[j+1] = words[j], words[i], words[j+1], words[i+1]
			}
		}
	}
	if d.throw(12) == 0 {
		words = nil
		for range d.throw(40) {
			words = append(words, d.word())
		}
		if len(words) > 1 && d.throw(4) > 0 {
			words[1] = of(d, []int{2, 4, 8, 16})
		}
	}
	return words
}

// symbol is mostly one of a name that is there.
func (d *dice) symbol() int {
	if d.throw(12) == 0 {
		return of(d, []int{0, -1, -2, 99, 1 << 62, 1<<62 + 1, math.MaxInt, math.MinInt})
	}
	return 1 + d.throw(16)
}

// symbols are mostly those of a subject, an object and an action of the graph.
func (d *dice) symbols(g api.Graph, x *names.Index[string]) [3]int {
	symbols := [3]int{d.symbol(), d.symbol(), d.symbol()}
	for i, list := range [3][]string{g.Subjects, g.Objects, g.Actions} {
		if len(list) > 0 && d.throw(5) > 0 {
			symbols[i], _ = x.Find(of(d, list))
		}
	}
	return symbols
}

func TestListsOfAnyKindAgainstASlowOne(t *testing.T) {
	d := dice(22)
	good, bad, met, missed, yes, no := 0, 0, 0, 0, 0, 0
	for range 20000 {
		g, x := d.graph(), d.index()
		words, _ := page.Lay(1+d.throw(9), g, x)
		words = d.broken(words)
		want, ok := slowRead(words, x)
		if ok {
			good++
			wantRead(t, "thrown", words, x, words[0], want)
		} else {
			bad++
			wantNotRead(t, "thrown", words, x, api.ErrPage)
		}
		for range 6 {
			symbols := d.symbols(g, x)
			allowed, read := slowDecide(words, symbols)
			wantDecide(t, "thrown", words, symbols[0], symbols[1], symbols[2], allowed, read)
			kind := int8(d.throw(5))
			number, looked := slowLook(words, symbols[0], kind)
			wantLook(t, "thrown", words, symbols[0], kind, number, looked)
			if looked > 0 && number != 0 {
				met++
			} else if looked > 0 {
				missed++
			}
			if allowed {
				yes++
			} else {
				no++
			}
		}
		if t.Failed() {
			return
		}
	}
	if good < 3000 || bad < 3000 || met < 5000 || missed < 5000 || yes < 1000 || no < 5000 {
		t.Errorf("%d well laid, %d not; %d met, %d not; %d allowed, %d not: too few to tell", good, bad, met, missed, yes, no)
	}
}

// shuffled is a well laid page whose keys were put in another order, and whose actions and classes have other numbers.
func (d *dice) shuffled(g api.Graph, x *names.Index[string]) []int {
	words := slowLay(1+d.throw(9), g, x)
	table, masks := slowSplit(words)
	actions, rows, columns := d.turn(len(g.Actions)), d.turn(words[2]), d.turn(words[3])
	other := make([][2]int, len(table))
	for _, i := range d.turn(len(table)) {
		place := table[i]
		if place[0] == 0 {
			continue
		}
		place[1] = [][]int{1: rows, 2: columns, 3: actions}[place[0]%4][place[1]-1] + 1
		looked, _ := slowSearch(other, place[0])
		other[looked[len(looked)-1]] = place
	}
	moved := make([]int, len(masks))
	for x := range rows {
		for y := range columns {
			moved[rows[x]*len(columns)+columns[y]] = masks[x*len(columns)+y]
		}
	}
	words = words[:4]
	for _, place := range other {
		words = append(words, place[0], place[1])
	}
	return append(words, moved...)
}

// turn has the numbers from 0 to n - 1 in any order.
func (d *dice) turn(n int) []int {
	var l []int
	for i := range n {
		l = slices.Insert(l, d.throw(len(l)+1), i)
	}
	return l
}

// Pages that Lay would not lay so are read too, and what is read decides as they do.
func TestPagesLaidInAnotherOrder(t *testing.T) {
	d := dice(23)
	others, yes := 0, 0
	for range 4000 {
		g, x := d.graph(), d.index()
		words := d.shuffled(g, x)
		want, ok := slowRead(words, x)
		if !ok || !graph.Valid(want) {
			t.Fatalf("%v is not well laid", words)
		}
		wantRead(t, "in another order", words, x, words[0], want)
		again, e := page.Lay(words[0], want, x)
		if e != api.OK || len(again) != len(words) {
			t.Fatalf("%v: laid again %v, %d", words, again, e)
		}
		if !slices.Equal(again, words) {
			others++
		}
		for range 20 {
			symbols := d.symbols(g, x)
			first, _ := page.Decide(words, symbols[0], symbols[1], symbols[2])
			second, _ := page.Decide(again, symbols[0], symbols[1], symbols[2])
			if first != second {
				t.Fatalf("%v and %v decide %v otherwise", words, again, symbols)
			}
			if first {
				yes++
			}
		}
		if t.Failed() {
			return
		}
	}
	if others < 1000 || yes < 1000 {
		t.Errorf("%d others, %d allowed: too few to tell", others, yes)
	}
}

// All lists with a table of two places and few numbers.
func TestAllSmallLists(t *testing.T) {
	x := index("a b")
	good, bad := 0, 0
	try := func(words []int) {
		want, ok := slowRead(words, x)
		if ok {
			good++
			wantRead(t, "small", words, x, words[0], want)
		} else {
			bad++
			wantNotRead(t, "small", words, x, api.ErrPage)
		}
	}
	for n := range 3 * 3 * 13 * 13 * 3 * 3 {
		digit := func(base int) int {
			k := n % base
			n /= base
			return k
		}
		words := []int{1, 2, digit(3), digit(3), digit(13), digit(3), digit(13), digit(3)}
		try(words)
		try(append(words, 0))
		try(append(words, 1))
	}
	// Of two keys, of four places: each pair of keys at each two places.
	for key := 4; key < 12; key++ {
		for other := 4; other < 12; other++ {
			for first := range 4 {
				for second := range 4 {
					for shape := range 4 {
						words := []int{1, 4, shape % 2, shape / 2, 0, 0, 0, 0, 0, 0, 0, 0}
						words[4+2*first], words[5+2*first] = key, 1
						words[4+2*second], words[5+2*second] = other, 1
						try(append(words, make([]int, words[2]*words[3])...))
						words[5+2*second] = 2
						try(words)
					}
				}
			}
		}
	}
	if good < 40 || bad < 10000 {
		t.Errorf("%d well laid, %d not: too few to tell", good, bad)
	}
}
