package store_test

import (
	"fmt"
	"iter"
	"slices"
	"testing"

	"gatehouse/api"
	"gatehouse/avc"
	"gatehouse/canon"
	"gatehouse/delta"
	"gatehouse/graph"
	"gatehouse/journal"
	"gatehouse/names"
	"gatehouse/page"
	"gatehouse/store"
	"gatehouse/valid"
)

// A second reckoning: the memory is a list of words, the pieces are marks on them, the disk is a text, the index a list; and each task's operations are written down one behind the other, from beginning to end: ahead of each step it waits for its turn.

type world struct {
	c       api.Config
	words   []int
	owner   []int // of each word: the address of the piece that is out and has it; free: nobody's
	bytes   string
	safe    int
	symbols []string
	book    map[int]api.Policy
	tasks   []*actor
	now     int
	access  api.Access // of the moment that goes on
	run     api.Run
}

const free = -1

// actor is a task.
type actor struct {
	*world
	number int
	slot   int // -1: none
	cache  *avc.Cache
	place  int         // its event's
	begun  bool        // its first turn has come
	vain   func() bool // would the step that it waits for be a look in vain?
	over   bool
	wait   func() bool
	resume func() (bool, bool)
	stop   func()
}

// stopped is what an actor panics with that is not needed any more.
type stopped struct{}

// worldOf is a store that is made, or the Code with which that is refused.
func worldOf(c api.Config, tasks [][]api.Op) (*world, api.Errno) {
	if c.Slots <= 0 || c.Slots > 16 || c.Sets < 0 || c.Sets > 256 || c.Sets > 0 && (c.Ways <= 0 || c.Ways > 8) || c.Words > 65536 || c.Words <= 2*c.Slots+4 || c.First <= 0 || c.First > 2147483647 || c.Disk < 0 || c.Disk > 1048576 || c.Flaw < 0 || c.Flaw > 6 {
		return nil, api.ErrConfig
	}
	if len(tasks) > 64 || slices.ContainsFunc(tasks, func(l []api.Op) bool { return len(l) > 256 }) {
		return nil, api.ErrMany
	}
	p, err := valid.Load(c.Text)
	if err != nil {
		return nil, err.(*api.Fault).Code
	}
	w := &world{c: c, words: make([]int, c.Words), owner: slices.Repeat([]int{free}, c.Words), book: map[int]api.Policy{}}
	w.words[1] = 1
	for i := range 4 + 2*c.Slots {
		w.owner[i] = -1000
	}
	words := w.lay(c.First, p)
	at, ok := w.take(len(words))
	if !ok {
		return nil, api.ErrRoom
	}
	if !w.append(c.First, p) {
		return nil, api.ErrFull
	}
	w.safe = len(w.bytes)
	copy(w.words[at:], words)
	w.words[0] = at
	w.book[at] = p
	w.run.Versions = []api.Version{{Number: c.First, Addr: at, Size: len(words), Point: -1, Gone: -1, Policy: p}}
	for i, ops := range tasks {
		for _, op := range ops {
			if op.Kind == 3 {
				w.symbol(op.Triple.Subject)
				w.symbol(op.Triple.Object)
				w.symbol(op.Triple.Action)
			}
		}
		w.tasks = append(w.tasks, w.actor(i, ops))
	}
	return w, api.OK
}

func (w *world) actor(number int, ops []api.Op) *actor {
	a := &actor{world: w, number: number, slot: -1, over: len(ops) == 0}
	a.resume, a.stop = iter.Pull(func(yield func(bool) bool) {
		defer func() {
			if r := recover(); r != nil && r != any(stopped{}) {
				panic(r)
			}
		}()
		a.wait = func() bool { return yield(true) }
		for i, op := range ops {
			a.do(i, op)
		}
	})
	return a
}

func (w *world) close() {
	for _, a := range w.tasks {
		a.stop()
	}
}

func (w *world) symbol(name string) int {
	if !slices.Contains(w.symbols, name) {
		w.symbols = append(w.symbols, name)
	}
	return slices.Index(w.symbols, name) + 1
}

// lay is a page's words, its new names with the next numbers.
func (w *world) lay(version int, p api.Policy) []int {
	g := graph.Compile(p)
	for _, name := range slices.Concat(g.Actions, g.Subjects, g.Objects) {
		w.symbol(name)
	}
	x := names.NewIndex[string]()
	for _, name := range w.symbols {
		x.Of(name)
	}
	words, _ := page.Lay(version, g, x)
	return words
}

// take is the first row of so many free words.
func (w *world) take(n int) (int, bool) {
	for addr := 0; addr+n <= len(w.words); addr++ {
		if slices.ContainsFunc(w.owner[addr:addr+n], func(o int) bool { return o != free }) {
			continue
		}
		for i := range n {
			w.owner[addr+i], w.words[addr+i] = addr, 0
		}
		return addr, true
	}
	return 0, false
}

func (w *world) give(addr int) bool {
	there := false
	for i, o := range w.owner {
		if o == addr && addr >= 0 {
			w.owner[i], w.words[i], there = free, poison, true
		}
	}
	return there
}

func (w *world) live() int {
	n := 0
	for i, o := range w.owner {
		if o == i {
			n++
		}
	}
	return n
}

func (w *world) append(version int, p api.Policy) bool {
	text, _ := canon.Text(p)
	record, e := journal.Frame(api.Entry{Version: version, Text: text})
	if e != api.OK || len(w.bytes)+len(record) > w.c.Disk {
		return false
	}
	w.bytes += record
	return true
}

// word is what stands at an address, and whether an access there is not refused.
func (w *world) word(addr int) (int, bool) {
	if addr < 0 || addr >= len(w.words) {
		return 0, false
	}
	return w.words[addr], w.words[addr] != poison
}

// turn waits for the next step.
func (a *actor) turn() {
	if a.begun && !a.wait() {
		panic(stopped{})
	}
	a.begun, a.vain = true, nil
	if a.place >= 0 && a.run.Events[a.place].Ended < 0 {
		a.run.Events[a.place].Steps++
	}
}

func (a *actor) load(addr int) (int, bool) {
	a.turn()
	was, good := a.word(addr)
	a.access = api.Access{Kind: 1, Addr: addr, Value: was, Good: good}
	return was, good
}

func (a *actor) store(addr, value int) {
	a.turn()
	was, good := a.word(addr)
	a.access = api.Access{Kind: 2, Addr: addr, Value: value, Old: was, Good: good}
	if good {
		a.words[addr] = value
	}
}

func (a *actor) add(addr int) int {
	a.turn()
	was, good := a.word(addr)
	a.access = api.Access{Kind: 4, Addr: addr, Value: 1, Old: was, Good: good}
	if good {
		a.words[addr]++
	}
	return was
}

// do is an operation.
func (a *actor) do(number int, op api.Op) {
	a.place = -1
	if a.begun && !a.wait() {
		panic(stopped{})
	}
	a.begun = false // the turn has come: the first step takes it
	a.run.Events = append(a.run.Events, api.Event{Task: a.number, Number: number, Kind: op.Kind, Began: a.now, Ended: -1, Point: -1})
	a.place = len(a.run.Events) - 1
	e := api.Event{Point: -1}
	switch held := a.slot >= 0; {
	case op.Kind == 1 && held:
		a.turn()
		e.Code = 182
	case op.Kind == 1:
		e = a.register()
	case op.Kind >= 4 && op.Kind <= 6:
		e = a.write(op)
	case op.Kind != 2 && op.Kind != 3 && op.Kind != 7:
		a.turn()
		e.Code = 1
	case !held:
		a.turn()
		e.Code = 181
	case op.Kind == 2:
		a.store(4+a.c.Slots+a.slot, 0)
		a.slot, a.cache = -1, nil
	default:
		e = a.read(op)
	}
	if x := a.event(); x.Ended < 0 {
		*x = api.Event{Task: x.Task, Number: x.Number, Kind: x.Kind, Began: x.Began, Ended: a.now, Point: e.Point, Steps: x.Steps, Code: e.Code, Allowed: e.Allowed, Version: e.Version, Hit: e.Hit, Broken: e.Broken}
	}
}

func (a *actor) event() *api.Event { return &a.run.Events[a.place] }

func (a *actor) register() api.Event {
	for slot := range a.c.Slots {
		a.turn()
		addr := 4 + a.c.Slots + slot
		was := a.words[addr]
		a.access = api.Access{Kind: 3, Addr: addr, Value: a.number + 1, Old: was, Good: was == 0}
		if was == 0 {
			a.words[addr] = a.number + 1
			a.slot = slot
			if a.c.Sets > 0 {
				a.cache, _ = avc.New(a.c.Sets, a.c.Ways)
			}
			return api.Event{Point: -1, Version: slot}
		}
	}
	return api.Event{Point: -1, Code: 180}
}

// read is a check or a version.
func (a *actor) read(op api.Op) api.Event {
	var e api.Event
	broken := func() api.Event {
		a.store(4+a.slot, 0)
		return api.Event{Point: a.event().Point, Broken: true, Version: e.Version}
	}
	if a.c.Flaw != 4 {
		a.enter()
	}
	p, good := a.load(0)
	a.event().Point = a.now
	e.Point = a.now
	if !good {
		return broken()
	}
	if a.c.Flaw == 4 {
		a.enter()
	}
	v, good := a.load(p)
	if !good {
		return broken()
	}
	e.Version = v
	if op.Kind == 3 {
		tag := v
		if a.c.Flaw == 2 {
			tag = p
		}
		s, o, x := a.symbol(op.Triple.Subject), a.symbol(op.Triple.Object), a.symbol(op.Triple.Action)
		if a.cache != nil {
			e.Allowed, e.Hit = a.cache.Get(tag, s, o, x)
		}
		if !e.Hit {
			allowed, sense := a.decide(p, s, o, x)
			if !sense {
				return broken()
			}
			e.Allowed = allowed
			if a.cache != nil {
				a.cache.Put(tag, s, o, x, allowed)
			}
		}
	}
	a.store(4+a.slot, 0)
	return e
}

func (a *actor) enter() {
	epoch, _ := a.load(1)
	a.store(4+a.slot, epoch)
}

// decide goes through a page: allowed, and whether what it read made sense.
func (a *actor) decide(p, s, o, x int) (bool, bool) {
	size, good := a.load(p + 1)
	if !good || !slices.Contains([]int{2, 4, 8, 16, 32, 64, 128, 256, 512, 1024, 2048, 4096}, size) {
		return false, false
	}
	var found []int
	for i, symbol := range []int{s, o, x} {
		key := 4*symbol + i + 1
		at, there := page.Hash(key, size), false
		for range size {
			k, good := a.load(p + 4 + 2*at)
			if !good {
				return false, false
			}
			if k == key {
				there = true
				break
			}
			if k == 0 {
				break
			}
			at = (at + 1) % size
		}
		if !there {
			return false, true
		}
		n, good := a.load(p + 5 + 2*at)
		if !good {
			return false, false
		}
		found = append(found, n)
	}
	columns, good := a.load(p + 3)
	if !good {
		return false, false
	}
	mask, good := a.load(p + 4 + 2*size + (found[0]-1)*columns + found[1] - 1)
	if !good || found[2] < 1 || found[2] > 16 {
		return false, false
	}
	return mask>>(found[2]-1)&1 == 1, true
}

// write is an update, an apply or a revoke.
func (a *actor) write(op api.Op) api.Event {
	if a.c.Flaw == 5 {
		return a.inside(op)
	}
	ticket := a.add(2)
	for served := -1; served != ticket; {
		a.turnUnless(func() bool { return a.words[3] != ticket })
		served = a.words[3]
		a.access = api.Access{Kind: 1, Addr: 3, Value: served, Good: true}
	}
	e := a.inside(op)
	a.add(3)
	return e
}

// turnUnless waits for a step that may come in vain.
func (a *actor) turnUnless(vain func() bool) {
	a.vain = vain
	a.turn()
}

// inside is all between the lock and the end.
func (a *actor) inside(op api.Op) api.Event {
	old, _ := a.load(0)
	looked := a.now
	version, _ := a.load(old)
	next, code := changed(a.book[old], op)
	if code == 0 && (version < 1 || version > 2147483646) {
		code = 250
	}
	if code != 0 {
		return api.Event{Code: code, Point: looked}
	}
	version++
	words := a.lay(version, next)

	a.turn()
	q, good := a.take(len(words))
	a.access = api.Access{Kind: 5, Addr: q, Value: len(words), Good: good}
	if !good {
		return api.Event{Code: 150, Point: looked}
	}
	a.turn()
	good = a.append(version, next)
	a.access = api.Access{Kind: 7, Value: version, Good: good}
	if !good {
		a.turn()
		a.access = api.Access{Kind: 6, Addr: q, Good: a.give(q)}
		return api.Event{Code: 210, Point: looked}
	}
	a.turn()
	a.safe = len(a.bytes)
	a.access = api.Access{Kind: 8, Good: true}

	point := 0
	publish := func() {
		a.store(0, q)
		point = a.now
		a.book[q] = next
		a.run.Versions = append(a.run.Versions, api.Version{Number: version, Addr: q, Size: len(words), Point: a.now, Gone: -1, Policy: next})
		a.event().Point = a.now
		if a.c.Flaw == 6 {
			a.event().Ended, a.event().Version = a.now, version
		}
	}
	if a.c.Flaw == 3 {
		publish()
	}
	for i, word := range words {
		a.store(q+i, word)
	}
	if a.c.Flaw != 3 {
		publish()
	}
	if a.c.Flaw != 1 {
		a.grace()
	}
	a.turn()
	good = a.give(old)
	a.access = api.Access{Kind: 6, Addr: old, Good: good}
	if good {
		a.gone(old)
	}
	return api.Event{Version: version, Point: point}
}

// gone is the last version that lay there, if it has not gone.
func (a *actor) gone(addr int) {
	last := -1
	for i, v := range a.run.Versions {
		if v.Addr == addr && v.Gone < 0 {
			last = i
		}
	}
	if last >= 0 {
		a.run.Versions[last].Gone = a.now
	}
}

func (a *actor) grace() {
	epoch := a.add(1) + 1
	for slot := range a.c.Slots {
		for held := true; held; {
			a.turnUnless(func() bool { return a.words[4+slot] != 0 && a.words[4+slot] < epoch })
			mark := a.words[4+slot]
			a.access = api.Access{Kind: 1, Addr: 4 + slot, Value: mark, Good: true}
			held = mark != 0 && mark < epoch
		}
	}
}

// changed is what an operation makes of a policy.
func changed(p api.Policy, op api.Op) (api.Policy, api.Errno) {
	switch op.Kind {
	case 4:
		next, err := valid.Load(op.Text)
		if err != nil {
			return api.Policy{}, err.(*api.Fault).Code
		}
		return next, 0
	case 5:
		next, _, e := delta.Apply(p, op.Deltas)
		return next, e
	}
	return delta.Revoke(p, op.Triple)
}

// pick is a moment.
func (w *world) pick(task int) bool {
	stepped := task >= 0 && task < len(w.tasks) && !w.tasks[task].over
	w.access = api.Access{}
	if stepped {
		_, more := w.tasks[task].resume()
		w.tasks[task].over = !more
	}
	w.run.Tasks = append(w.run.Tasks, task)
	w.run.Trace = append(w.run.Trace, w.access)
	w.run.Live = append(w.run.Live, w.live())
	w.now++
	return stepped
}

func (w *world) done(task int) bool {
	return task < 0 || task >= len(w.tasks) || w.tasks[task].over
}

func (w *world) ready(task int) bool {
	return !w.done(task) && (w.tasks[task].vain == nil || !w.tasks[task].vain())
}

func (w *world) told() api.Run {
	r := w.run
	r.Stats = make([]api.Stats, w.c.Slots)
	for _, a := range w.tasks {
		if a.slot >= 0 && a.cache != nil {
			r.Stats[a.slot] = a.cache.Stats()
		}
	}
	r.Symbols, r.Disk, r.Synced = w.symbols, w.bytes, w.safe
	return r
}

// drawn are a configuration, tasks, and picks.
type drawn struct {
	c     api.Config
	tasks [][]api.Op
	picks []int
}

var drawnTexts = []string{small, house, "", "subject ann; object door; action open, read; role r; member ann : r; allow r on door : *;", "action open; subject ann, eve; object door, gate; allow ann on door, gate: open; allow eve on gate: open;"}

func drawTriple(d *dice) api.Triple {
	if d.throw(3) > 0 {
		return door
	}
	return api.Triple{Subject: of(d, []string{"ann", "ann", "ann", "eve", "bob", "nobody"}), Object: of(d, []string{"door", "door", "door", "gate", "door1", "ann"}), Action: of(d, []string{"open", "open", "open", "read", "door"})}
}

func drawOp(d *dice) api.Op {
	switch d.throw(20) {
	case 0, 1:
		return register()
	case 2:
		return unregister()
	case 3, 4, 5, 6, 7, 8, 9:
		return check(drawTriple(d))
	case 10, 11:
		return version()
	case 12, 13:
		return update(of(d, append(drawnTexts, "?", "subject ann", "member a : b;", "action open; subject ann, eve; object door, gate; allow ann on door: open;", small)))
	case 14:
		return apply(api.Delta{Kind: of(d, []int8{api.DeltaRestore, api.DeltaRestore, api.DeltaExcept, 99}), Triple: drawTriple(d)})
	case 15:
		return apply(newSubject(of(d, []string{"eve", "zoe", "ann"})), api.Delta{Kind: api.DeltaTrust, Name: "ann", Trust: float64(d.throw(3)) / 2})
	case 16, 17, 18:
		return revoke(drawTriple(d))
	}
	return api.Op{Kind: int8(d.throw(256) - 128), Triple: drawTriple(d), Text: small}
}

// draw is seldom refused; a half has a flaw.
func draw(d *dice) drawn {
	x := drawn{c: api.Config{
		Text:  of(d, []string{small, small, small, drawnTexts[3], drawnTexts[4]}),
		Slots: of(d, []int{1, 1, 2, 2, 3, 5}),
		Sets:  of(d, []int{0, 1, 1, 2}),
		Ways:  1 + d.throw(3),
		Words: of(d, []int{60, 80, 100, 150, 200, 300}),
		First: of(d, []int{1, 5, 5, 5, 1<<31 - 3, 1<<31 - 2}),
		Disk:  of(d, []int{200, 600, 2000, 8000, 8000}),
		Flaw:  of(d, []int{0, 0, 0, 0, 0, 0, 1, 2, 3, 4, 5, 6}),
	}}
	for range 1 + d.throw(4) {
		ops := []api.Op{register()}
		if d.throw(4) == 0 {
			ops = nil
		}
		for range d.throw(7) {
			ops = append(ops, drawOp(d))
		}
		x.tasks = append(x.tasks, ops)
	}
	task := 0
	for range 50 + d.throw(450) {
		if d.throw(7) == 0 {
			task = d.throw(len(x.tasks)+2) - 1
		}
		x.picks = append(x.picks, task)
	}
	return x
}

// wantReckoned plays what was drawn, and reckons it once more; at each pick and, now and then, in all fields.
func wantReckoned(t *testing.T, x drawn, d *dice) api.Run {
	t.Helper()
	w, code := worldOf(x.c, x.tasks)
	s, e := store.New(x.c, x.tasks)
	if e != code || (s == nil) != (e != api.OK) {
		t.Fatalf("New(%+v) = %v, want %v", x.c, e, code)
	}
	if code != api.OK {
		wantSame(t, store.Play(x.c, x.tasks, x.picks), api.Run{Code: code})
		return api.Run{Code: code}
	}
	defer w.close()
	for i, task := range x.picks {
		for other := -1; other <= len(x.tasks); other++ {
			if s.Done(other) != w.done(other) || s.Ready(other) != w.ready(other) {
				t.Fatalf("moment %d: Done(%d) = %v, Ready(%d) = %v, want %v, %v", i, other, s.Done(other), other, s.Ready(other), w.done(other), w.ready(other))
			}
		}
		if got, want := s.Pick(task), w.pick(task); got != want {
			t.Fatalf("moment %d: Pick(%d) = %v, want %v", i, task, got, want)
		}
		if d.throw(20) == 0 {
			wantSame(t, s.Run(), w.told())
		}
		if t.Failed() {
			t.Fatalf("behind %d moments", i+1)
		}
	}
	wantSame(t, s.Run(), w.told())
	wantSame(t, store.Play(x.c, x.tasks, x.picks), w.told())
	return w.told()
}

// tally counts what has happened, so that a test in which nothing does is seen.
type tally map[string]int

func (n tally) count(x drawn, r api.Run) {
	n["flaw "+fmt.Sprint(x.c.Flaw)]++
	for _, e := range r.Events {
		if e.Ended < 0 {
			n["in progress"]++
			continue
		}
		n["code "+fmt.Sprint(int(e.Code))]++
		if e.Hit {
			n["hit"]++
		}
		if e.Broken {
			n["broken"]++
		}
		if e.Allowed {
			n["allowed"]++
		}
	}
	for i, v := range r.Versions {
		if i > 0 {
			n["version"]++
		}
		if v.Gone >= 0 {
			n["gone"]++
		}
	}
	for _, a := range r.Trace {
		if a.Kind == api.AccessFree && !a.Good {
			n["given back twice"]++
		}
	}
	for _, s := range r.Stats {
		n["evictions"] += s.Evictions
	}
}

func (n tally) want(t *testing.T, least int, what ...string) {
	t.Helper()
	for _, x := range what {
		if n[x] < least {
			t.Errorf("%s: %d times, want %d: %v", x, n[x], least, n)
		}
	}
}

func TestDrawnRuns(t *testing.T) {
	n := tally{}
	for seed := range 1800 {
		d := dice(seed)
		x := draw(&d)
		r := wantReckoned(t, x, &d)
		if t.Failed() {
			t.Fatalf("seed %d: %+v", seed, x)
		}
		n.count(x, r)
	}
	n.want(t, 40, "flaw 0", "flaw 1", "flaw 2", "flaw 3", "flaw 4", "flaw 5", "flaw 6", "in progress", "hit", "allowed", "version", "gone", "code 0", "code 1", "code 61", "code 60", "code 93", "code 150", "code 180", "code 181", "code 182", "code 210", "code 250")
	n.want(t, 5, "broken", "given back twice", "evictions", "code 20", "code 40", "code 92")
}

// Configurations that may not be, or hardly.
func TestDrawnConfigurations(t *testing.T) {
	n := map[api.Errno]int{}
	for seed := range 4000 {
		d := dice(seed)
		x := draw(&d)
		for range 1 + d.throw(2) {
			switch d.throw(9) {
			case 0:
				x.c.Slots = of(&d, []int{-1, 0, 1, 16, 17, 1 << 40})
			case 1:
				x.c.Sets = of(&d, []int{-1, 0, 256, 257})
			case 2:
				x.c.Ways = of(&d, []int{-1, 0, 1, 8, 9})
			case 3:
				x.c.Words = of(&d, []int{-1, 0, 1, 65536, 65537, 4 + 2*min(x.c.Slots, 99), 5 + 2*min(x.c.Slots, 99), 25 + 2*min(x.c.Slots, 99)})
			case 4:
				x.c.First = of(&d, []int{-1, 0, 1, 1<<31 - 1, 1 << 31})
			case 5:
				x.c.Disk = of(&d, []int{-1, 0, 81, 82, 1 << 20, 1<<20 + 1})
			case 6:
				x.c.Flaw = of(&d, []int{-1, 0, 6, 7})
			case 7:
				x.c.Text = of(&d, []string{"?", "subject a", "subject a; subject a;", "member a : b;", house})
			case 8:
				x.tasks = append(x.tasks, make([]api.Op, of(&d, []int{0, 256, 257})))
			}
		}
		x.picks = x.picks[:20]
		r := wantReckoned(t, x, &d)
		if t.Failed() {
			t.Fatalf("seed %d: %+v", seed, x.c)
		}
		n[r.Code]++
	}
	for _, code := range []api.Errno{api.OK, api.ErrConfig, api.ErrMany, api.ErrByte, api.ErrSyntax, api.ErrTwice, api.ErrUnknown, api.ErrRoom, api.ErrFull} {
		if n[code] < 20 {
			t.Errorf("%v: %d times", code, n[code])
		}
	}
}

// Many writers at once, with checks between, in many orders of their steps, with each flaw.
func TestManyWritersAtOnce(t *testing.T) {
	n := tally{}
	for seed := range 280 {
		d := dice(seed)
		c := api.Config{Text: small, Slots: 2, Sets: seed % 2, Ways: 1, Words: of(&d, []int{70, 100, 140, 300}), First: 1, Disk: 8000, Flaw: seed % 7}
		x := drawn{c: c}
		for i := range 2 + seed%2 {
			var ops []api.Op
			for range 3 {
				ops = append(ops, of(&d, []api.Op{revoke(door), update(small), update("subject ann; object door;"), apply(newSubject(fmt.Sprint("s", i))), apply(api.Delta{Kind: api.DeltaRestore, Triple: door}), update("?")}))
			}
			x.tasks = append(x.tasks, ops)
		}
		for range 2 {
			x.tasks = append(x.tasks, []api.Op{register(), check(door), check(door), version(), check(door), check(door), check(door)})
		}
		task := 0
		for range 600 {
			if d.throw(1+seed%9) == 0 {
				task = d.throw(len(x.tasks))
			}
			x.picks = append(x.picks, task)
		}
		n.count(x, wantReckoned(t, x, &d))
		if t.Failed() {
			t.Fatalf("seed %d: %+v", seed, x)
		}
	}
	n.want(t, 10, "broken", "given back twice", "hit", "allowed", "version", "gone", "in progress", "code 92", "code 150", "code 60", "code 61")
}
