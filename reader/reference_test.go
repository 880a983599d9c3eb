package reader_test

import (
	"iter"
	"slices"
	"testing"

	"gatehouse/api"
	"gatehouse/avc"
	"gatehouse/cells"
	"gatehouse/names"
	"gatehouse/page"
	"gatehouse/reader"
	"gatehouse/sched"
)

// A second reckoning: the memory's words and the whole trace, and each reader written down from its beginning to its end; between two accesses it waits until it is its turn.

type world struct {
	words []int
	trace []api.Access
	lost  int // accesses that were refused
}

// access is one entry of the trace: what stood there, and whether it was not refused.
func (w *world) access(kind int8, addr, value int) (int, bool) {
	was, good := 0, false
	if addr >= 0 && addr < len(w.words) {
		was = w.words[addr]
		good = was != api.Poison
	}
	x := api.Access{Kind: kind, Addr: addr, Value: value, Old: was, Good: good}
	if kind == api.AccessLoad {
		x.Value, x.Old = was, 0
	} else if good {
		w.words[addr] = value
	}
	if !good {
		w.lost++
	}
	w.trace = append(w.trace, x)
	return was, good
}

type slow struct {
	*world
	current, slot, flaw int
	version             bool
	cache               *avc.Cache // a twin of the machine's
	triple              [3]int
	now, point          int
	answer              reader.Answer
	begun, over         bool
	wait                func() bool
	resume              func() (bool, bool)
	stop                func()
}

// stopped is what a reader panics with that is not needed any more.
type stopped struct{}

// begin makes a reader one that waits for its first turn.
func (s *slow) begin() *slow {
	s.point = -1
	s.resume, s.stop = iter.Pull(func(yield func(bool) bool) {
		defer func() {
			if r := recover(); r != nil && r != any(stopped{}) {
				panic(r)
			}
		}()
		s.wait = func() bool { return yield(true) }
		s.visit()
		s.turn()
		s.access(api.AccessStore, s.slot, 0)
	})
	return s
}

// step lets it go on to its next access, and to where it waits for the one behind that; has it ended?
func (s *slow) step(now int) bool {
	s.now = now
	if !s.over {
		_, more := s.resume()
		s.over = !more
	}
	return s.over
}

func (s *slow) turn() {
	if s.begun && !s.wait() {
		panic(stopped{})
	}
	s.begun = true
}

// load breaks a reader whose load is refused.
func (s *slow) load(addr int) (int, bool) {
	s.turn()
	word, good := s.access(api.AccessLoad, addr, 0)
	s.answer.Broken = s.answer.Broken || !good
	return word, good
}

func (s *slow) enter() {
	s.turn()
	epoch, _ := s.access(api.AccessLoad, epochAt, 0)
	s.turn()
	s.access(api.AccessStore, s.slot, epoch)
}

func (s *slow) look() bool {
	p, ok := s.load(s.current)
	s.point = s.now
	if ok {
		s.answer.Page = p
	}
	return ok
}

// visit is all but the end.
func (s *slow) visit() {
	late := s.flaw == api.FlawLate
	if !late {
		s.enter()
	}
	if !s.look() {
		return
	}
	if late {
		s.enter()
	}
	v, ok := s.load(s.answer.Page)
	if !ok {
		return
	}
	s.answer.Version = v
	if s.version {
		return
	}
	if s.flaw == api.FlawTag {
		v = s.answer.Page
	}
	if s.cache != nil {
		if yes, there := s.cache.Get(v, s.triple[0], s.triple[1], s.triple[2]); there {
			s.answer.Allowed, s.answer.Hit = yes, true
			return
		}
	}
	yes, sense := s.through()
	if !sense {
		s.answer.Broken = true
		return
	}
	s.answer.Allowed = yes
	if s.cache != nil {
		s.cache.Put(v, s.triple[0], s.triple[1], s.triple[2], yes)
	}
}

// through goes through the page: does it allow the triple, and does it make sense?
func (s *slow) through() (bool, bool) {
	p := uint64(s.answer.Page)
	places, ok := s.load(int(p + 1))
	if !ok || !slices.Contains(powers(), places) {
		return false, false
	}
	var found [3]uint64
	for i, symbol := range s.triple {
		key := int(uint64(symbol)<<2 | uint64(i+1))
		place, there, ok := s.seek(key, places)
		if !ok || !there {
			return false, ok
		}
		number, ok := s.load(int(p + 5 + 2*uint64(place)))
		if !ok {
			return false, false
		}
		found[i] = uint64(number)
	}
	columns, ok := s.load(int(p + 3))
	if !ok {
		return false, false
	}
	mask, ok := s.load(int(p + 4 + 2*uint64(places) + (found[0]-1)*uint64(columns) + found[1] - 1))
	if !ok || found[2] == 0 || found[2] > 16 {
		return false, false
	}
	return bitOf(mask, int(found[2])-1), true
}

// seek is the place of a key: is it there, and did all loads make sense?
func (s *slow) seek(key, places int) (int, bool, bool) {
	first := int(uint16(key)*40503) % places
	for _, place := range slices.Concat(upTo(first, places), upTo(0, first)) {
		switch word, ok := s.load(int(uint64(s.answer.Page) + 4 + 2*uint64(place))); {
		case !ok:
			return 0, false, false
		case word == key:
			return place, true, true
		case word == 0:
			return 0, false, true
		}
	}
	return 0, false, true
}

func upTo(from, to int) []int {
	var l []int
	for i := from; i < to; i++ {
		l = append(l, i)
	}
	return l
}

// twins are a memory and its second reckoning, the machines and the slow ones beside them, caches and their twins.
type twins struct {
	memory   *cells.Memory
	world    *world
	sites    []*reader.Site
	slots    int
	caches   [][2]*avc.Cache
	machines []*reader.Machine
	slow     []*slow
}

// twinsOf has sites of these flaws over one memory.
func twinsOf(t *testing.T, size, slots int, flaws ...int) *twins {
	t.Helper()
	m := fresh(t, size)
	set(m, 0, pageAt, 1)
	w := &twins{memory: m, slots: slots, caches: [][2]*avc.Cache{{}}}
	for _, flaw := range flaws {
		w.sites = append(w.sites, &reader.Site{Memory: m, Slots: over(t, m, slots), Flaw: flaw})
	}
	w.world = &world{words: allWords(t, m), trace: m.Trace()}
	return w
}

func (w *twins) addCache(t *testing.T, sets, ways int) {
	t.Helper()
	w.caches = append(w.caches, [2]*avc.Cache{cacheOf(t, sets, ways), cacheOf(t, sets, ways)})
}

// begin makes a machine: a check with a cache (0: none), or a version.
func (w *twins) begin(t *testing.T, site, slot, cache int, version bool, triple [3]int) {
	t.Helper()
	s := w.sites[site]
	x := reader.Version(s, slot)
	if !version {
		x = reader.Check(s, slot, w.caches[cache][0], triple[0], triple[1], triple[2])
	}
	if slot < 0 || slot >= w.slots {
		if x != nil {
			t.Errorf("there is a machine in the slot %d", slot)
		}
		return
	}
	w.machines = append(w.machines, made(t, x))
	y := &slow{world: w.world, current: s.Current, slot: slotsAt + slot, flaw: s.Flaw, version: version, cache: w.caches[cache][1], triple: triple}
	w.slow = append(w.slow, y.begin())
}

func (w *twins) step(t *testing.T, i, now int) {
	t.Helper()
	if got, want := w.machines[i].Step(now), w.slow[i].step(now); got != want {
		t.Errorf("Step(%d) of the machine %d = %v, want %v", now, i, got, want)
	}
}

// write is what others do: words are laid by stores, whatever stood there.
func (w *twins) write(addr int, words ...int) {
	w.memory.Clear(addr, len(words))
	clear(w.world.words[addr : addr+len(words)])
	for i, word := range words {
		w.memory.Store(addr+i, word)
		w.world.access(api.AccessStore, addr+i, word)
	}
}

func (w *twins) poison(addr, n int) {
	w.memory.Poison(addr, n)
	for i := range n {
		w.world.words[addr+i] = api.Poison
	}
}

// look holds all that is to be seen against the second reckoning.
func (w *twins) look(t *testing.T) {
	t.Helper()
	for i, x := range w.machines {
		if s := w.slow[i]; x.Point() != s.point || x.Answer() != s.answer {
			t.Errorf("the machine %d (%v): %d, %+v, want %d, %+v", i, s.triple, x.Point(), x.Answer(), s.point, s.answer)
		}
	}
	for i, c := range w.caches[1:] {
		if c[0].Stats() != c[1].Stats() {
			t.Errorf("the cache %d: %+v, want %+v", i+1, c[0].Stats(), c[1].Stats())
		}
	}
	if got := allWords(t, w.memory); !slices.Equal(got, w.world.words) {
		t.Errorf("the words are %v, want %v", got, w.world.words)
	}
	w.lookAtTrace(t)
}

func (w *twins) lookAtTrace(t *testing.T) {
	t.Helper()
	got, want := w.memory.Trace(), w.world.trace
	for i := range max(len(got), len(want)) {
		if i >= len(got) || i >= len(want) || got[i] != want[i] {
			t.Fatalf("the trace differs at %d: %v, want %v", i, got[min(i, len(got)):], want[min(i, len(want)):])
		}
	}
	if w.memory.Bad() != w.world.lost {
		t.Errorf("%d accesses were refused, want %d", w.memory.Bad(), w.world.lost)
	}
}

// close lets all go that wait for another turn.
func (w *twins) close() {
	for _, s := range w.slow {
		s.stop()
	}
}

// outcomes are how many machines came to which end, so that a test in which nothing does is seen.
type outcomes struct{ ended, allowed, denied, hits, broken, versions int }

func (w *twins) count(sum *outcomes) {
	for _, s := range w.slow {
		switch {
		case !s.over:
			continue
		case s.answer.Broken:
			sum.broken++
		case s.version:
			sum.versions++
		case s.answer.Hit:
			sum.hits++
		case s.answer.Allowed:
			sum.allowed++
		default:
			sum.denied++
		}
		sum.ended++
	}
}

// rows are machines over two pages, at 10 and at 40, of the versions 5 and 6, and two writes: of the current word, and of what becomes of the page at 10.
type row struct {
	what  string
	steps []int // of each machine, as many as are mixed; then of the two writes
	begin func(t *testing.T, w *twins)
	last  func(w *twins)
}

func shortRows() []row {
	ann, bob := annDoorOpen, [3]int{8, 3, 1}
	poisoned := func(w *twins) { w.poison(10, 21) }
	anew := func(w *twins) {
		words := laid()
		words[0], words[20] = 7, 0
		w.write(10, words...)
	}
	checks := func(cache int, list ...[3]int) func(t *testing.T, w *twins) {
		return func(t *testing.T, w *twins) {
			for slot, triple := range list {
				w.begin(t, 0, slot, cache, false, triple)
			}
		}
	}
	known := func(t *testing.T, w *twins) {
		for _, c := range w.caches[1] {
			c.Put(5, 2, 3, 1, true)
		}
		checks(1, ann, bob)(t, w)
	}
	return []row{
		{"a check", []int{14, 2}, checks(0, ann), poisoned},
		{"a check with a cache", []int{14, 2}, checks(1, ann), anew},
		{"two checks, one of which is known", []int{5, 4, 2}, known, poisoned},
		{"the same, the page laid anew", []int{5, 4, 2}, known, anew},
		{"two versions", []int{5, 3, 2}, func(t *testing.T, w *twins) {
			w.begin(t, 0, 0, 0, true, ann)
			w.begin(t, 0, 1, 0, true, ann)
		}, poisoned},
		{"a check and a version in one slot", []int{14, 5}, func(t *testing.T, w *twins) {
			w.begin(t, 0, 1, 1, false, ann)
			w.begin(t, 0, 1, 0, true, ann)
		}, nil},
	}
}

// All orders of a few machines' steps, with the two writes between.
func TestAllShortOrders(t *testing.T) {
	var sum outcomes
	for _, r := range shortRows() {
		for _, flaw := range []int{api.FlawNone, api.FlawTag, api.FlawLate} {
			for picks := range sched.Mixes(r.steps...) {
				w := twinsOf(t, 70, 2, flaw)
				w.addCache(t, 1, 1)
				w.write(10, laid()...)
				newer := laid()
				newer[0], newer[20] = 6, 0
				w.write(40, newer...)
				r.begin(t, w)
				w.play(t, picks, r.last)
				w.look(t)
				w.count(&sum)
				w.close()
				if t.Failed() {
					t.Fatalf("%s, flaw %d, picks %v", r.what, flaw, picks)
				}
			}
		}
	}
	if sum.allowed < 5000 || sum.denied < 5000 || sum.hits < 5000 || sum.broken < 5000 || sum.versions < 5000 {
		t.Errorf("%+v: too few to tell", sum)
	}
}

// play makes the picks, and then lets each machine go to its end; who is none of the machines makes the two writes.
func (w *twins) play(t *testing.T, picks []int, last func(w *twins)) {
	t.Helper()
	writes := []func(w *twins){func(w *twins) { w.write(0, 40) }, last}
	for now, who := range picks {
		if who < len(w.machines) {
			w.step(t, who, now)
			continue
		}
		writes[0](w)
		writes = writes[1:]
	}
	for i, s := range w.slow {
		for now := 100; !s.over; now++ {
			w.step(t, i, now)
		}
	}
}

// regions are where pages are laid in long rows: the second one lies over the ends of the others.
func regions() []int { return []int{10, 45, 60, 110} }

const longSize = 160

// Long rows by many machines in many slots, over sites of all flaws, with others who lay pages, write, poison and clear.
func TestLongRows(t *testing.T) {
	d := dice(2310)
	var sum outcomes
	lost := 0
	for row := range 800 {
		slots := []int{1, 2, 3, 5}[row%4]
		w := twinsOf(t, longSize, slots, flaws()...)
		for range 1 + d.throw(3) {
			w.addCache(t, 1+d.throw(3), 1+d.throw(4))
		}
		index := names.NewIndex[string]()
		for _, at := range regions() {
			w.layOne(&d, index, at)
		}
		for call := range 600 {
			w.anyCall(t, &d, index, call)
			if row%8 == 0 || call%40 == 39 {
				w.look(t)
			}
			if t.Failed() {
				t.Fatalf("row %d: %d slots, behind %d calls", row, slots, call)
			}
		}
		w.count(&sum)
		lost += w.world.lost
		w.close()
	}
	if sum.allowed < 1000 || sum.denied < 2000 || sum.hits < 400 || sum.broken < 2000 || sum.versions < 1000 || lost < 1000 {
		t.Errorf("%+v, %d refused: too few to tell", sum, lost)
	}
}

// layOne lays the page of some graph at an address, if it has room there.
func (w *twins) layOne(d *dice, index *names.Index[string], at int) bool {
	words, e := page.Lay(1+d.throw(4), d.littleGraph(), index)
	if e != api.OK || at+len(words) > longSize {
		return false
	}
	w.write(at, words...)
	return true
}

// littleGraph has few names, so that its page fits and its triples are met.
func (d *dice) littleGraph() api.Graph {
	g := api.Graph{Actions: []string{"open", "read"}[:1+d.throw(2)], Subjects: []string{"ann", "bob"}[:1+d.throw(2)], Objects: []string{"door"}}
	g.Of, g.On = []int{1, 1}[:len(g.Subjects)], []int{1}
	g.Masks = [][]uint16{{uint16(d.throw(1 << len(g.Actions)))}}
	return g
}

// anyCall is one call, by the dice.
func (w *twins) anyCall(t *testing.T, d *dice, index *names.Index[string], now int) {
	t.Helper()
	switch kind := d.throw(100); {
	case kind == 0 && d.throw(3) == 0:
		addr := d.throw(longSize)
		w.poison(addr, 1+d.throw(min(4, longSize-addr)))
	case kind == 1:
		w.write(of(d, regions())+d.throw(37), d.word())
	case kind == 2:
		w.write(d.throw(longSize), d.word())
	case kind < 6:
		w.layOne(d, index, of(d, regions()))
	case kind < 9:
		w.write(0, of(d, regions()))
	case kind == 9 && d.throw(4) == 0:
		w.write(0, d.word())
	case kind == 10:
		w.write(1, 1+d.throw(5))
	case kind < 19 || len(w.machines) == 0:
		w.begin(t, d.throw(len(w.sites)), d.throw(w.slots+2)-1, d.throw(len(w.caches)), d.throw(6) == 0, d.triple(index))
	default:
		w.step(t, w.someMachine(d), now-100)
	}
}

// someMachine is one of the last ones mostly: these have steps left.
func (w *twins) someMachine(d *dice) int {
	if d.throw(20) == 0 {
		return d.throw(len(w.machines))
	}
	return len(w.machines) - 1 - d.throw(min(5, len(w.machines)))
}

// triple is one of those that the little graphs have, mostly.
func (d *dice) triple(index *names.Index[string]) [3]int {
	switch d.throw(10) {
	case 0:
		return [3]int{of(d, corners()), of(d, corners()), of(d, corners())}
	case 1:
		return [3]int{d.throw(6), d.throw(6), d.throw(6)}
	}
	subject, _ := index.Find(of(d, []string{"ann", "ann", "bob"}))
	object, _ := index.Find("door")
	action, _ := index.Find(of(d, []string{"open", "open", "read"}))
	return [3]int{subject, object, action}
}

func (d *dice) word() int {
	switch d.throw(4) {
	case 0:
		return of(d, corners())
	case 1:
		return of(d, []int{2, 4, 8, 16, 32, 4096, 3, 6, 8192})
	case 2:
		return d.throw(20)
	}
	return d.throw(longSize)
}
