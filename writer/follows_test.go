package writer_test

import (
	"fmt"
	"slices"
	"testing"

	"gatehouse/api"
	"gatehouse/delta"
	"gatehouse/epoch"
	"gatehouse/journal"
	"gatehouse/own"
	"gatehouse/writer"
)

// 24.10

// crowd are writers, each of whom makes one write behind the other, and readers, each with a slot, who go through the page that counts. Behind each step it is asked what follows; what does not hold is complained of, so that a flaw can be seen to be one.
type crowd struct {
	*bench
	t        *testing.T
	now      int
	writers  []*scribe
	readers  []*visit
	chain    []api.Policy // the policies that have counted
	first    int          // the version of the first one
	current  int          // where the last one's page lies
	words    []int        // of that page
	checked  int          // so many records were looked at
	wrong    []string
	failed   int
	waited   int
	outlived int // readers that were on a page while it was replaced
}

// scribe makes writes: those that are left, and the one that is in progress.
type scribe struct {
	left    []api.Op
	op      api.Op
	machine *writer.Machine
	piece   int  // that it has taken; 0: none
	touched bool // something has changed that a write which fails leaves as it was
}

// visit is a reader's section: it loads the current word, and then the words of that page, which are what they were at that moment.
type visit struct {
	slot    int
	visits  int // how many are left
	section *epoch.Section
	begun   bool
	page    int
	words   []int // nil: it has not looked
	made    int   // so many of them were loaded
}

func (c *crowd) complain(format string, args ...any) {
	c.wrong = append(c.wrong, fmt.Sprintf("moment %d: ", c.now)+fmt.Sprintf(format, args...))
}

func gather(t *testing.T, flaw, words, readers, visits int, ops ...[]api.Op) *crowd {
	t.Helper()
	b := benchOf(t, words, max(1, readers), 4000, flaw)
	c := &crowd{bench: b, t: t, first: 5}
	p := load(t, small)
	wantBegun(t, b, c.first, p, slotsAt+2*b.slots)
	for _, list := range ops {
		c.writers = append(c.writers, &scribe{left: list})
	}
	for slot := range readers {
		c.readers = append(c.readers, &visit{slot: slot, visits: visits})
	}
	c.counts(p, slotsAt+2*b.slots)
	c.look()
	return c
}

// counts is told which policy counts from now on, and where its page lies.
func (c *crowd) counts(p api.Policy, at int) {
	c.chain = append(c.chain, own.Policy(p))
	c.current, c.words = at, pageOf(c.t, c.bench, c.version(), p)
}

func (c *crowd) version() int { return c.first + len(c.chain) - 1 }

// pick is one step of a writer or, behind these, of a reader; is there one left?
func (c *crowd) pick(who int) bool {
	if who < len(c.writers) {
		return c.write(c.writers[who])
	}
	return c.read(c.readers[who-len(c.writers)])
}

func (c *crowd) write(s *scribe) bool {
	if s.machine == nil {
		if len(s.left) == 0 {
			return false
		}
		s.op, s.left = s.left[0], s.left[1:]
		s.machine, s.piece, s.touched = made(c.t, c.bench, s.op), 0, false
	}
	if !s.machine.Ready() {
		c.waited++
	}
	was, blocks := stateOf(c.t, c.bench), c.Arena.Blocks()
	last := s.machine.Step(c.now)
	c.own(s, blocks)
	s.touched = s.touched || c.touched(s, was, blocks)
	c.swapped(s)
	if last {
		c.ended(s)
		s.machine = nil
	}
	c.look()
	c.now++
	return true
}

// own notes which piece the step has taken.
func (c *crowd) own(s *scribe, was []api.Block) {
	for _, piece := range c.Arena.Blocks() {
		if !piece.Free && !slices.Contains(was, piece) {
			s.piece = piece.Addr
		}
	}
}

// touched says whether a step has changed the disk, the book, a fixed word that is not the lock's, or a word of a piece that was out and is not the writer's own.
func (c *crowd) touched(s *scribe, was state, blocks []api.Block) bool {
	is := allWords(c.t, c.Memory)
	for addr := range slotsAt + 2*c.slots {
		if addr != nextAt && addr != servingAt && is[addr] != was.words[addr] {
			return true
		}
	}
	for _, piece := range blocks {
		if !piece.Free && piece.Addr != s.piece && !slices.Equal(is[piece.Addr:piece.Addr+piece.Size], was.words[piece.Addr:piece.Addr+piece.Size]) {
			return true
		}
	}
	return c.disk.Bytes() != was.bytes || c.disk.Safe() != was.safe || len(c.Book) != len(was.book)
}

// swapped asks, where another page counts behind a step than ahead of it, whether it is this write's, put there at its point, and what its operation makes of the one ahead.
func (c *crowd) swapped(s *scribe) {
	at, _ := wordAt(c.Memory, c.Current)
	if at == c.current {
		return
	}
	o := s.machine.Outcome()
	want := c.becomes(c.chain[len(c.chain)-1], s.op)
	if s.machine.Point() != c.now || o.Page != at || o.Version != c.version()+1 || o.Code != api.OK {
		c.complain("the page at %d counts, of the version %d, the outcome is %+v, the point %d", at, c.version()+1, o, s.machine.Point())
	}
	if textOf(c.t, want) != textOf(c.t, c.Book[at]) {
		c.complain("the policy is %+v, want %+v", c.Book[at], want)
	}
	for _, v := range c.readers {
		if v.words != nil {
			c.outlived++
		}
	}
	c.counts(want, at)
}

// becomes is what an operation that is not refused makes of a policy.
func (c *crowd) becomes(p api.Policy, op api.Op) api.Policy {
	switch op.Kind {
	case api.OpUpdate:
		return load(c.t, op.Text)
	case api.OpApply:
		for _, d := range op.Deltas {
			p, _ = delta.One(p, d)
		}
		return p
	}
	p = own.Policy(p)
	if !slices.Contains(p.Excepts, op.Triple) {
		p.Excepts = append(p.Excepts, op.Triple)
	}
	return p
}

// ended looks at a write that has ended.
func (c *crowd) ended(s *scribe) {
	o := s.machine.Outcome()
	if o.Code == api.OK {
		return
	}
	c.failed++
	if s.touched || o.Version != 0 || o.Page != 0 || o.Size != 0 || s.machine.Freed() != -1 {
		c.complain("a write that failed has left something: %+v", o)
	}
	if s.piece != 0 && s.piece != c.current {
		if word, _ := wordAt(c.Memory, s.piece); word != poison && o.Code == api.ErrFull {
			c.complain("the piece at %d was not given back", s.piece)
		}
	}
}

// look asks what must hold behind every step.
func (c *crowd) look() {
	at, _ := wordAt(c.Memory, c.Current)
	words, e := c.Memory.Words(at, len(c.words))
	if e != api.OK || !slices.Equal(words, c.words) {
		c.complain("the page at %d is not laid whole: %v, want %v", at, words, c.words)
	}
	p, there := c.Book[at]
	if !there {
		c.complain("the page at %d is not in the book", at)
	} else if len(c.words) > 0 && c.words[0] != c.version() {
		c.complain("the page has the version %d", c.words[0])
	}
	if c.checked == len(c.chain) {
		return
	}
	c.checked = len(c.chain)
	entries, _ := journal.Read(c.disk.Cut(0))
	var versions []int
	for _, e := range entries {
		versions = append(versions, e.Version)
	}
	want := api.Entry{Version: c.version(), Text: textOf(c.t, p)}
	if len(entries) < len(c.chain) || entries[len(c.chain)-1] != want {
		c.complain("the version %d is not safe: %v are", c.version(), versions)
	}
}

// read is a reader's next step.
func (c *crowd) read(v *visit) bool {
	switch {
	case v.section == nil && v.visits == 0:
		return false
	case v.section == nil:
		v.section, _ = c.Slots.Enter(v.slot)
		v.visits--
		v.section.Step()
	case !v.begun:
		v.section.Step()
		v.begun = true
	case v.words == nil:
		v.page, _ = c.Memory.Load(c.Current)
		v.words, v.made = c.words, 0
	case v.made < len(v.words):
		word, e := c.Memory.Load(v.page + v.made)
		if e != api.OK || word != v.words[v.made] {
			c.complain("a reader loads %d, %v at %d, want %d", word, e, v.page+v.made, v.words[v.made])
		}
		v.made++
	default:
		c.Slots.Leave(v.slot)
		*v = visit{slot: v.slot, visits: v.visits}
	}
	c.look()
	c.now++
	return true
}

// finish lets all go to their ends, in turn.
func (c *crowd) finish() {
	for range 2000 {
		left := false
		for who := range len(c.writers) + len(c.readers) {
			left = c.pick(who) || left
		}
		if !left || len(c.wrong) > 0 {
			return
		}
	}
	c.complain("somebody does not end")
}

// rows are what writers do in most runs: all kinds of operations, some of which are refused, by their change or for want of room.
func rows(d *dice) [][]api.Op {
	excepts := func(kind int8) api.Op { return apply(api.Delta{Kind: kind, Triple: door}) }
	all := []api.Op{
		revoke(), revoke(), excepts(api.DeltaRestore), excepts(api.DeltaExcept), apply(newSubject("bob")), apply(newSubject("eve"), newSubject("zoe")),
		update(small), update(""), update("?"), update(house), {}, apply(api.Delta{Kind: api.DeltaDrop, At: 1}), apply(),
		apply(api.Delta{Kind: api.DeltaAllow, Rule: api.Rule{Who: "bob", What: "door"}}), apply(api.Delta{Kind: api.DeltaTrust, Name: "ann"}),
	}
	var list [][]api.Op
	for range 1 + d.throw(3) {
		var ops []api.Op
		for range 1 + d.throw(4) {
			ops = append(ops, of(d, all))
		}
		list = append(list, ops)
	}
	return list
}

// sums are how much has come to pass, so that a test in which nothing does is seen.
type sums struct{ written, failed, waited, outlived, wrong int }

func (c *crowd) count(sum *sums) {
	sum.written += len(c.chain) - 1
	sum.failed += c.failed
	sum.waited += c.waited
	sum.outlived += c.outlived
	if len(c.wrong) > 0 {
		sum.wrong++
	}
}

// Many orders: each who is picked makes a few steps or many.
func TestWhatFollows(t *testing.T) {
	d := dice(24)
	var sum sums
	for run := range 700 {
		c := gather(t, []int{api.FlawNone, api.FlawTag, api.FlawLate, api.FlawEarlyDone, 99}[run%5], 70+d.throw(150), d.throw(4), 1+d.throw(4), rows(&d)...)
		most := []int{1, 5, 40}[d.throw(3)]
		for range 200 {
			who := d.throw(len(c.writers) + len(c.readers))
			for range 1 + d.throw(most) {
				c.pick(who)
			}
		}
		c.finish()
		c.count(&sum)
		if len(c.wrong) > 0 {
			t.Fatalf("run %d: %v", run, c.wrong[0])
		}
	}
	if sum.written < 1000 || sum.failed < 1000 || sum.waited < 1000 || sum.outlived < 300 {
		t.Errorf("%+v: too few to tell", sum)
	}
}

// Two writers and a reader, each broken off once, at each step.
func TestWhatFollowsWhereEachIsBrokenOff(t *testing.T) {
	var sum sums
	for _, ops := range pairs() {
		for first := range 36 {
			for then := first % 3; then < 30; then += 3 {
				c := gather(t, api.FlawNone, 100, 1, 2, ops[:1], ops[1:])
				for who, n := range []int{first, then, 36} {
					for range n {
						c.pick([]int{0, 2, 1}[who])
					}
				}
				c.finish()
				c.count(&sum)
				if len(c.wrong) > 0 {
					t.Fatalf("%+v, %d steps, then %d: %v", ops, first, then, c.wrong[0])
				}
			}
		}
	}
	if sum.written < 2000 || sum.failed < 1000 || sum.waited < 1000 || sum.outlived < 300 {
		t.Errorf("%+v: too few to tell", sum)
	}
}

// With each flaw that makes a difference something of this does not hold, in some order.
func TestWhatTheStepsAreFor(t *testing.T) {
	for _, flaw := range []int{api.FlawNoWait, api.FlawEarly, api.FlawNoLock} {
		var sum sums
		for first := range 36 {
			c := gather(t, flaw, 100, 1, 2, []api.Op{apply(newSubject("bob"))}, []api.Op{revoke()})
			for who, n := range []int{first, 6, 36} {
				for range n {
					c.pick([]int{0, 2, 1}[who])
				}
			}
			c.finish()
			c.count(&sum)
		}
		if sum.wrong == 0 {
			t.Errorf("flaw %d: nothing is wrong", flaw)
		}
	}
}

// A write that is refused leaves no trace but names in the index, a lock that was had, and the words of the piece that it gave back.
func TestAWriteThatFailsLeavesTheOthers(t *testing.T) {
	b := begun(t, 100, 186, 0) // no record but a short one fits
	bytes, words := b.disk.Bytes(), allWords(t, b.Memory)
	for range 3 {
		for _, op := range []api.Op{update("?"), {}, revoke(), apply(newSubject("bob")), update(house)} {
			x := made(t, b, op)
			toEnd(t, x)
			if x.Outcome().Code == api.OK {
				t.Errorf("%+v is not refused", op)
			}
		}
	}
	is := allWords(t, b.Memory)
	if b.disk.Bytes() != bytes || b.disk.Safe() != len(bytes) || len(b.Book) != 1 || !slices.Equal(is[:2], words[:2]) || !slices.Equal(is[4:27], words[4:27]) || is[nextAt] != 15 || is[servingAt] != 15 {
		t.Errorf("the words are %v", is)
	}
	wantPolicy(t, b, 6, load(t, small))
	wantWrite(t, b, update(""), load(t, ""))
}
