package writer_test

import (
	"fmt"
	"iter"
	"reflect"
	"slices"
	"testing"

	"gatehouse/api"
	"gatehouse/canon"
	"gatehouse/delta"
	"gatehouse/graph"
	"gatehouse/journal"
	"gatehouse/names"
	"gatehouse/own"
	"gatehouse/page"
	"gatehouse/valid"
	"gatehouse/writer"
)

// A second reckoning: the memory's words and the whole trace, the pieces as marks on the words, the disk as a text, the index as a list; and each write written down from its beginning to its end: between two accesses it waits until it is its turn.

type world struct {
	words   []int
	trace   []api.Access
	lost    int   // accesses that were refused
	owner   []int // of each word of the arena: the address of the piece that is out and has it; free: nobody's
	bytes   string
	room    int
	safe    int
	symbols []string
	book    map[int]api.Policy
	slots   int
}

const free = -1

// worldOf is the second reckoning of a bench on which nothing has begun.
func worldOf(t *testing.T, b *bench, room int) *world {
	t.Helper()
	w := &world{words: allWords(t, b.Memory), trace: b.Memory.Trace(), room: room, book: map[int]api.Policy{}, slots: b.slots}
	w.owner = slices.Repeat([]int{free}, len(w.words))
	for addr := range slotsAt + 2*b.slots {
		w.owner[addr] = addr - 1000 // no piece of the arena's
	}
	return w
}

func (w *world) note(x api.Access) { w.trace = append(w.trace, x) }

// access is a load, a store or an add: what stood there, and whether it was not refused.
func (w *world) access(kind int8, addr, value int) (int, bool) {
	was, good := 0, false
	if addr >= 0 && addr < len(w.words) {
		was = w.words[addr]
		good = was != poison
	}
	x := api.Access{Kind: kind, Addr: addr, Value: value, Old: was, Good: good}
	switch {
	case kind == api.AccessLoad:
		x.Value, x.Old = was, 0
	case good && kind == api.AccessStore:
		w.words[addr] = value
	case good:
		w.words[addr] += value
	}
	if !good {
		w.lost++
	}
	w.note(x)
	return was, good
}

// take is the first row of so many free words.
func (w *world) take(n int) (int, bool) {
	for addr := 0; addr+n <= len(w.words); addr++ {
		if slices.ContainsFunc(w.owner[addr:addr+n], func(o int) bool { return o != free }) {
			continue
		}
		for i := range n {
			w.owner[addr+i], w.words[addr+i] = addr, 0
		}
		return addr, true
	}
	return 0, false
}

func (w *world) give(addr int) bool {
	there := false
	for i, o := range w.owner {
		if o == addr && addr >= 0 {
			w.owner[i], w.words[i], there = free, poison, true
		}
	}
	return there
}

// blocks are the pieces as the arena tells them.
func (w *world) blocks() []api.Block {
	var l []api.Block
	for addr := slotsAt + 2*w.slots; addr < len(w.owner); {
		o, n := w.owner[addr], 1
		for addr+n < len(w.owner) && w.owner[addr+n] == o {
			n++
		}
		l = append(l, api.Block{Addr: addr, Size: n, Free: o == free})
		addr += n
	}
	return l
}

func (w *world) append(version int, text string) bool {
	record, e := journal.Frame(api.Entry{Version: version, Text: text})
	if e != api.OK || len(w.bytes)+len(record) > w.room {
		return false
	}
	w.bytes += record
	return true
}

// lay gives names their numbers, and has the page's words; no number is left of none.
func (w *world) lay(version int, p api.Policy) []int {
	g := graph.Compile(p)
	for _, name := range slices.Concat(g.Actions, g.Subjects, g.Objects) {
		if !slices.Contains(w.symbols, name) {
			w.symbols = append(w.symbols, name)
		}
	}
	x := names.NewIndex[string]()
	for _, name := range w.symbols {
		x.Of(name)
	}
	words, _ := page.Lay(version, g, x)
	return words
}

// slow is a write that waits for its turn ahead of each access.
type slow struct {
	*world
	op                        api.Op
	current, flaw             int
	now, looked, point, freed int
	outcome                   writer.Outcome
	begun, over               bool
	vain                      func() bool // would the access that it waits for be a look in vain?
	wait                      func() bool
	resume                    func() (bool, bool)
	stop                      func()
}

// stopped is what a write panics with that is not needed any more.
type stopped struct{}

func (w *world) write(op api.Op, current, flaw int) *slow {
	s := &slow{world: w, op: own.Op(op), current: current, flaw: flaw, point: -1, freed: -1}
	s.resume, s.stop = iter.Pull(func(yield func(bool) bool) {
		defer func() {
			if r := recover(); r != nil && r != any(stopped{}) {
				panic(r)
			}
		}()
		s.wait = func() bool { return yield(true) }
		if s.flaw == api.FlawNoLock {
			s.inside()
			return
		}
		s.enter()
		s.inside()
		s.turn()
		s.access(api.AccessAdd, servingAt, 1)
	})
	return s
}

// step lets it go on to its next access, and to where it waits for the one behind that; has it ended?
func (s *slow) step(now int) bool {
	s.now = now
	if !s.over {
		_, more := s.resume()
		s.over = !more
	}
	return s.over
}

func (s *slow) ready() bool { return s.over || s.vain == nil || !s.vain() }

func (s *slow) turn() {
	if s.begun && !s.wait() {
		panic(stopped{})
	}
	s.begun, s.vain = true, nil
}

// turnUnless is a turn that may come in vain.
func (s *slow) turnUnless(vain func() bool) {
	s.vain = vain
	s.turn()
}

func (s *slow) enter() {
	ticket, drawn := 0, false
	for !drawn {
		s.turn()
		ticket, drawn = s.access(api.AccessAdd, nextAt, 1)
	}
	for served := false; !served; {
		s.turnUnless(func() bool { return s.words[servingAt] != ticket || ticket == poison })
		serving, good := s.access(api.AccessLoad, servingAt, 0)
		served = good && serving == ticket
	}
}

// fail is what is known of a write that was refused.
func (s *slow) fail(code api.Errno) { s.outcome.Code, s.point = code, s.looked }

// inside is all between the lock and the end.
func (s *slow) inside() {
	s.turn()
	s.outcome.Old, _ = s.access(api.AccessLoad, s.current, 0)
	s.looked = s.now
	old := s.outcome.Old
	s.turn()
	version, _ := s.access(api.AccessLoad, old, 0)
	next, code := s.changed(s.book[old])
	if code == api.OK && (version <= 0 || version >= 2147483647) {
		code = api.ErrWorn
	}
	if code != api.OK {
		s.fail(code)
		return
	}
	version++
	words := s.lay(version, next)

	s.turn()
	q, good := s.take(len(words))
	s.note(api.Access{Kind: api.AccessTake, Addr: q, Value: len(words), Good: good})
	if !good {
		s.fail(api.ErrRoom)
		return
	}
	s.turn()
	text, _ := canon.Text(next)
	good = s.append(version, text)
	s.note(api.Access{Kind: api.AccessAppend, Value: version, Good: good})
	if !good {
		s.fail(api.ErrFull)
		s.turn()
		s.note(api.Access{Kind: api.AccessFree, Addr: q, Good: s.give(q)})
		return
	}
	s.turn()
	s.safe = len(s.bytes)
	s.note(api.Access{Kind: api.AccessSync, Good: true})

	if s.flaw == api.FlawEarly {
		s.publish(q, version, words, next)
	}
	for i, word := range words {
		s.turn()
		s.access(api.AccessStore, q+i, word)
	}
	if s.flaw != api.FlawEarly {
		s.publish(q, version, words, next)
	}
	if s.flaw != api.FlawNoWait {
		s.grace()
	}
	s.turn()
	s.note(api.Access{Kind: api.AccessFree, Addr: old, Good: s.give(old)})
	s.freed = s.now
}

func (s *slow) publish(q, version int, words []int, p api.Policy) {
	s.turn()
	s.access(api.AccessStore, s.current, q)
	s.point = s.now
	s.outcome = writer.Outcome{Version: version, Page: q, Size: len(words), Old: s.outcome.Old}
	s.book[q] = p
}

func (s *slow) grace() {
	s.turn()
	was, _ := s.access(api.AccessAdd, epochAt, 1)
	for slot := range s.slots {
		for held := true; held; {
			s.turnUnless(func() bool { return s.words[slotsAt+slot] != 0 && s.words[slotsAt+slot] < was+1 })
			mark, _ := s.access(api.AccessLoad, slotsAt+slot, 0)
			held = mark != 0 && mark < was+1
		}
	}
}

// changed is what the operation makes of a policy, each text and each triple seen for itself.
func (s *slow) changed(p api.Policy) (api.Policy, api.Errno) {
	switch s.op.Kind {
	case 4:
		next, err := valid.Load(s.op.Text)
		if err != nil {
			return api.Policy{}, err.(*api.Fault).Code
		}
		return next, api.OK
	case 5:
		next, _, e := delta.Apply(p, s.op.Deltas)
		return next, e
	case 6:
		t := s.op.Triple
		subject := slices.ContainsFunc(p.Subjects, func(x api.Subject) bool { return x.Name == t.Subject })
		if !subject || !slices.Contains(p.Objects, t.Object) || !slices.Contains(p.Actions, t.Action) {
			return api.Policy{}, api.ErrUnknown
		}
		next := own.Policy(p)
		if !slices.Contains(next.Excepts, t) {
			next.Excepts = append(next.Excepts, t)
		}
		return next, api.OK
	}
	return api.Policy{}, api.ErrArg
}

// twins are a bench with sites of some flaws, its second reckoning, and the machines with the slow ones beside them.
type twins struct {
	*bench
	world    *world
	sites    []*writer.Site
	machines []*writer.Machine
	slow     []*slow
	seen     int   // so many entries of the trace were looked at
	taken    []int // the pieces that others have
}

// twinsOf has sites that share all but their flaws.
func twinsOf(t *testing.T, words, slots, room int, flaws ...int) *twins {
	t.Helper()
	b := benchOf(t, words, slots, room, 0)
	w := &twins{bench: b, world: worldOf(t, b, room)}
	for _, flaw := range flaws {
		s := *b.Site
		s.Flaw = flaw
		w.sites = append(w.sites, &s)
	}
	return w
}

func (w *twins) first(t *testing.T, version int, text string) {
	t.Helper()
	p := load(t, text)
	wantBegun(t, w.bench, version, p, slotsAt+2*w.slots)
	words := w.world.lay(version, p)
	at, _ := w.world.take(len(words))
	w.world.append(version, textOf(t, p))
	w.world.safe = len(w.world.bytes)
	for _, x := range laying(version, at, 0, 0, words) {
		if x.Kind == api.AccessStore {
			w.world.access(x.Kind, x.Addr, x.Value)
		} else {
			w.world.note(x)
		}
	}
	w.world.book[at] = p
}

func (w *twins) begin(t *testing.T, site int, op api.Op) int {
	t.Helper()
	s := w.sites[site]
	x := writer.New(s, op)
	if x == nil {
		t.Fatal("there is no machine")
	}
	w.machines = append(w.machines, x)
	w.slow = append(w.slow, w.world.write(op, s.Current, s.Flaw))
	return len(w.machines) - 1
}

// step is one step of a machine, and what is told of it behind that.
func (w *twins) step(t *testing.T, i, now int) bool {
	t.Helper()
	x, s := w.machines[i], w.slow[i]
	if got, want := x.Ready(), s.ready(); got != want {
		t.Errorf("Ready() of the machine %d = %v, want %v", i, got, want)
	}
	got, want := x.Step(now), s.step(now)
	if got != want {
		t.Errorf("Step(%d) of the machine %d = %v, want %v", now, i, got, want)
	}
	if x.Outcome() != s.outcome || x.Point() != s.point || x.Freed() != s.freed {
		t.Errorf("the machine %d: %+v, %d, %d, want %+v, %d, %d", i, x.Outcome(), x.Point(), x.Freed(), s.outcome, s.point, s.freed)
	}
	return want
}

// look holds all that is to be seen against the second reckoning.
func (w *twins) look(t *testing.T) {
	t.Helper()
	if got := allWords(t, w.Memory); !slices.Equal(got, w.world.words) {
		t.Errorf("the words are %v, want %v", got, w.world.words)
	}
	if got, want := w.Arena.Blocks(), w.world.blocks(); !slices.Equal(got, want) {
		t.Errorf("the pieces are %v, want %v", got, want)
	}
	if w.disk.Bytes() != w.world.bytes || w.disk.Safe() != w.world.safe {
		t.Errorf("the disk has %d bytes, %d of them safe, want %d, %d", len(w.disk.Bytes()), w.disk.Safe(), len(w.world.bytes), w.world.safe)
	}
	if !slices.Equal(w.bench.symbols(), w.world.symbols) {
		t.Errorf("the symbols are %v, want %v", w.bench.symbols(), w.world.symbols)
	}
	for i, x := range w.machines {
		if s := w.slow[i]; x.Outcome() != s.outcome || x.Point() != s.point || x.Freed() != s.freed || x.Ready() != s.ready() {
			t.Errorf("the machine %d: %+v, %d, %d, %v, want %+v, %d, %d, %v", i, x.Outcome(), x.Point(), x.Freed(), x.Ready(), s.outcome, s.point, s.freed, s.ready())
		}
	}
	w.lookAtBook(t)
	w.lookAtTrace(t)
}

func (w *twins) lookAtBook(t *testing.T) {
	t.Helper()
	if len(w.Book) != len(w.world.book) {
		t.Errorf("the book has %d pages, want %d", len(w.Book), len(w.world.book))
	}
	for at, p := range w.world.book {
		if q, there := w.Book[at]; !there || !reflect.DeepEqual(own.Policy(p), own.Policy(q)) {
			t.Errorf("the book has at %d %+v, want %+v", at, q, p)
		}
	}
}

func (w *twins) lookAtTrace(t *testing.T) {
	t.Helper()
	got, want := w.Memory.Trace(), w.world.trace
	for i := w.seen; i < max(len(got), len(want)); i++ {
		if i >= len(got) || i >= len(want) || got[i] != want[i] {
			t.Fatalf("the trace differs at %d: %v, want %v", i, got[min(i, len(got)):], want[min(i, len(want)):])
		}
	}
	w.seen = len(got)
	if w.Memory.Bad() != w.world.lost {
		t.Errorf("%d accesses were refused, want %d", w.Memory.Bad(), w.world.lost)
	}
}

// close lets all go that wait for another turn.
func (w *twins) close() {
	for _, s := range w.slow {
		s.stop()
	}
}

// outcomes are how many writes came to which end, so that a test in which nothing does is seen.
type outcomes map[api.Errno]int

func (w *twins) count(sum outcomes) {
	for _, s := range w.slow {
		if s.over {
			sum[s.outcome.Code]++
		}
	}
}

// What others do.

func (w *twins) set(addr, word int) {
	set(w.Memory, addr, word)
	w.world.words[addr] = 0
	if word != 0 {
		w.world.access(api.AccessStore, addr, word)
	}
}

func (w *twins) poison(addr, n int) {
	w.Memory.Poison(addr, n)
	copy(w.world.words[addr:], slices.Repeat([]int{poison}, n))
}

// mark is a section's two steps at once, or its end.
func (w *twins) mark(t *testing.T, slot int, open bool) {
	t.Helper()
	if !open {
		w.Slots.Leave(slot)
		w.world.access(api.AccessStore, slotsAt+slot, 0)
		return
	}
	enter(t, w.bench, slot)
	now, _ := w.world.access(api.AccessLoad, epochAt, 0)
	w.world.access(api.AccessStore, slotsAt+slot, now)
}

func (w *twins) takePiece(t *testing.T, n int) {
	t.Helper()
	at, e := w.Arena.Take(n)
	want, good := w.world.take(n)
	if at != want || good != (e == api.OK) {
		t.Errorf("Take(%d) = %d, %v, want %d", n, at, e, want)
	}
	if good {
		w.taken = append(w.taken, at)
	}
}

func (w *twins) givePiece(t *testing.T, addr int) {
	t.Helper()
	if e := w.Arena.Give(addr); w.world.give(addr) != (e == api.OK) {
		t.Errorf("Give(%d) = %v", addr, e)
	}
}

// pairs are two operations, and what they come to one behind the other.
func pairs() [][2]api.Op {
	return [][2]api.Op{
		{revoke(), revoke()},
		{apply(newSubject("bob")), revoke()},
		{apply(newSubject("bob")), apply(newSubject("bob"))}, // the second one is refused
		{update(""), revoke()},                               // likewise
		{update("?"), update(small)},
		{{}, apply(api.Delta{Kind: api.DeltaRestore, Triple: door})},
	}
}

// Two writes, and a section that is open up to some moment: one makes so many steps, then the other, then the first to its end, then the second; whoever waits looks in vain.
func TestTwoWritesAcrossEachOther(t *testing.T) {
	sum := outcomes{}
	for _, ops := range pairs() {
		for _, flaw := range []int{api.FlawNone, api.FlawNoWait, api.FlawEarly, api.FlawNoLock} {
			for _, size := range []struct{ words, room int }{{100, 500}, {48, 500}, {100, 200}} {
				for first := range 36 {
					for then := first % 5; then < 36; then += 5 {
						w := twinsOf(t, size.words, 1, size.room, flaw)
						w.first(t, 5, small)
						w.mark(t, 0, true)
						w.begin(t, 0, ops[0])
						w.begin(t, 0, ops[1])
						w.play(t, first, then)
						w.look(t)
						w.count(sum)
						if t.Failed() {
							t.Fatalf("%+v, flaw %d, %+v, %d steps, then %d", ops, flaw, size, first, then)
						}
					}
				}
			}
		}
	}
	if sum[api.OK] < 1000 || sum[api.ErrTwice] < 300 || sum[api.ErrUnknown] < 300 || sum[api.ErrRoom] < 300 || sum[api.ErrFull] < 300 {
		t.Errorf("%v: too few to tell", sum)
	}
}

func (w *twins) play(t *testing.T, first, then int) {
	t.Helper()
	now := 0
	for i, n := range []int{first, then} {
		for range n {
			w.step(t, i, now)
			now++
		}
	}
	w.mark(t, 0, false)
	for range 2 { // the one that is in the way ends in the first round
		for i := range w.machines {
			for range 40 {
				w.step(t, i, now)
				now++
			}
		}
	}
}

// longWords are few, so that pages lie where others lay.
const longWords = 150

// Long rows by many machines, over sites of all flaws, with sections between, and others who take pieces, write words and poison them.
func TestLongRows(t *testing.T) {
	d := dice(2410)
	sum := outcomes{}
	lost, waited := 0, 0
	for row := range 400 {
		slots := []int{1, 2, 3, 5}[row%4]
		list := flaws()
		if row%3 == 0 {
			list = list[:1]
		}
		w := twinsOf(t, longWords, slots, []int{300, 1000, 20000}[d.throw(3)], list...)
		w.first(t, 1+d.throw(4), of(&d, []string{small, "", "subject ann; action open;"}))
		for call := range 900 {
			waited += w.anyCall(t, &d, call, row%5 == 0)
			if row%16 == 0 || call%60 == 59 {
				w.look(t)
			}
			if t.Failed() {
				t.Fatalf("row %d: %d slots, behind %d calls", row, slots, call)
			}
		}
		w.count(sum)
		lost += w.world.lost
		w.close()
	}
	for _, code := range []api.Errno{api.OK, api.ErrArg, api.ErrUnknown, api.ErrTwice, api.ErrRoom, api.ErrFull, api.ErrWorn, api.ErrSyntax, api.ErrNoExcept} {
		if sum[code] < 100 {
			t.Errorf("%v: too few to tell of %v", sum, code)
		}
	}
	if lost < 1000 || waited < 1000 {
		t.Errorf("%d refused, %d looks in vain: too few to tell", lost, waited)
	}
}

// anyCall is one call, by the dice; with wild ones among them words are spoiled that writers go by. 1, if it was a look in vain.
func (w *twins) anyCall(t *testing.T, d *dice, now int, wild bool) int {
	t.Helper()
	switch kind := d.throw(100); {
	case kind == 0 && wild:
		addr := d.throw(longWords)
		w.poison(addr, 1+d.throw(min(3, longWords-addr)))
	case kind == 1 && wild:
		w.set(d.throw(4), d.throw(40))
	case kind == 2 && wild && d.throw(4) > 0: // a page that counted once, and one that is served
		w.set(0, of(d, w.Arena.Blocks()).Addr)
		w.set(servingAt, w.world.words[nextAt]-d.throw(3))
	case kind == 2 && wild:
		w.set(d.throw(longWords), of(d, corners()))
	case kind < 5:
		w.takePiece(t, 1+d.throw(12))
	case kind == 5 && wild && d.throw(4) == 0:
		w.givePiece(t, of(d, w.Arena.Blocks()).Addr)
	case kind < 8 && len(w.taken) > 0:
		i := d.throw(len(w.taken))
		w.givePiece(t, w.taken[i])
		w.taken = slices.Delete(w.taken, i, i+1)
	case kind < 10:
		w.mark(t, d.throw(w.slots), true)
	case kind < 17:
		w.mark(t, d.throw(w.slots), false)
	case kind < 20 || len(w.machines) == 0:
		w.begin(t, d.throw(len(w.sites)), d.op())
	default:
		return w.anyStep(t, d, now-100)
	}
	return 0
}

// anyStep is some steps of one of the last machines, mostly.
func (w *twins) anyStep(t *testing.T, d *dice, now int) int {
	t.Helper()
	i := len(w.machines) - 1 - d.throw(min(6, len(w.machines)))
	if d.throw(30) == 0 {
		i = d.throw(len(w.machines))
	}
	vain := 0
	for range 1 + d.throw(12) {
		if !w.slow[i].ready() {
			vain = 1
		}
		w.step(t, i, now)
	}
	return vain
}

// op is an operation that is refused as often as not.
func (d *dice) op() api.Op {
	name := func() string { return of(d, []string{"ann", "bob", "door", "open", "n" + fmt.Sprint(d.throw(40))}) }
	triple := api.Triple{Subject: of(d, []string{"ann", "ann", "bob"}), Object: of(d, []string{"door", "door", "vault"}), Action: of(d, []string{"open", "open", "read"})}
	switch d.throw(9) {
	case 0, 1:
		return api.Op{Kind: api.OpRevoke, Triple: triple}
	case 2:
		return update(of(d, []string{small, small, "", "subject ann", "action open; subject ann;", "subject ann; object door; action open, read; allow ann on door : read;", "subject ann, bob; object door; action open, read; deny bob on door : *;", "member a : b;"}))
	case 3:
		return api.Op{Kind: int8(d.throw(256) - 128), Triple: triple, Text: small}
	}
	var list []api.Delta
	for range 1 + d.throw(3)/2 {
		list = append(list, api.Delta{
			Kind: of(d, []int8{1, 1, 2, 3, 4, 4, 5, 6, 15, 16, 17, 17, int8(d.throw(20))}), Name: name(), Trust: of(d, []float64{0, 0.5, 1}), At: d.throw(3),
			Triple: triple, Rule: api.Rule{Deny: d.throw(3) == 0, Who: triple.Subject, What: triple.Object},
		})
	}
	return apply(list...)
}
