package store_test

import (
	"math"
	"slices"
	"strconv"
	"strings"
	"testing"

	"gatehouse/api"
	"gatehouse/delta"
	"gatehouse/graph"
	"gatehouse/mean"
	"gatehouse/store"
)

// 25.3: checks, versions, writes, and what is none of these.

// great has room for the document's policy, some times.
func great() api.Config {
	return api.Config{Text: house, Slots: 2, Words: 600, First: 1, Disk: 8000}
}

// Each triple of the document's text, and some with names that are not there.
func TestEachTriple(t *testing.T) {
	p := load(t, house)
	subjects, objects, actions := []string{"ann", "bob", "the night watch", "clerk", "eve", "", "door1"}, []string{"door1", "door2", "vault", "doors", "gate", "ann"}, []string{"open", "read", "write", "*", "vault"}
	for _, sets := range []int{0, 2} {
		c := great()
		c.Sets, c.Ways = sets, 2
		allowed, n := 0, 0
		for _, s := range subjects {
			ops := []api.Op{register()}
			for _, o := range objects {
				for _, a := range actions {
					ops = append(ops, check(api.Triple{Subject: s, Object: o, Action: a}))
				}
			}
			for i, e := range finished(t, c, ops...).Events[1:] {
				n++
				want := mean.Allows(p, ops[i+1].Triple)
				if e.Allowed != want || e.Broken || e.Hit || e.Version != 1 || e.Code != api.OK || e.Point != e.Began+2 || e.Ended != e.Began+e.Steps-1 || e.Steps > 113 {
					t.Errorf("%v: %+v, want %v", ops[i+1].Triple, e, want)
				}
				if want {
					allowed++
				}
			}
		}
		if allowed != 1 || n != 7*6*5 {
			t.Errorf("%d of %d were allowed", allowed, n)
		}
	}
}

// A version's event, and a check's, behind each step.
func TestReadsStepByStep(t *testing.T) {
	c := config()
	c.Sets, c.Ways = 1, 1
	for _, x := range []struct {
		op    api.Op
		steps int
		end   api.Event
	}{
		{version(), 5, api.Event{Version: 5}},
		{check(door), 14, api.Event{Version: 5, Allowed: true}},
		{check(api.Triple{Subject: "ann", Object: "door", Action: "ann"}), 11, api.Event{Version: 5}},
	} {
		s := made(t, c, one(register(), x.op, check(door)))
		s.Pick(0)
		for i := range x.steps {
			s.Pick(-1) // other moments pass between
			s.Pick(0)
			want := api.Event{Number: 1, Kind: x.op.Kind, Began: 2, Ended: -1, Point: -1, Steps: i + 1}
			if i >= 2 {
				want.Point = 6
			}
			if i == x.steps-1 {
				want.Ended, want.Version, want.Allowed = 2*x.steps, x.end.Version, x.end.Allowed
			}
			if e := s.Run().Events[1]; e != want {
				t.Errorf("behind %d steps: %+v, want %+v", i+1, e, want)
			}
		}
	}
}

// A hit: five steps, allowed or not.
func TestHits(t *testing.T) {
	c := config()
	c.Sets, c.Ways = 1, 2
	eve := api.Triple{Subject: "eve", Object: "door", Action: "open"}
	r := finished(t, c, register(), check(door), check(eve), check(eve), check(door), version())
	steps := []int{1, 14, 0, 5, 5, 5}
	for i, e := range r.Events {
		want := api.Event{Number: i, Kind: e.Kind, Began: e.Began, Ended: e.Began + e.Steps - 1, Point: e.Began + 2, Steps: e.Steps, Allowed: i == 1 || i == 4, Hit: i == 3 || i == 4, Version: 5}
		if i == 0 {
			want.Point, want.Version = -1, 0
		}
		if e != want || steps[i] > 0 && e.Steps != steps[i] {
			t.Errorf("%+v, want %+v", e, want)
		}
	}
}

// A write's event behind each step: its point is told from the swap on, the rest at its end.
func TestAWriteStepByStep(t *testing.T) {
	for _, op := range []api.Op{revoke(door), update(small + "except ann on door: open;"), apply(api.Delta{Kind: api.DeltaExcept, Triple: door})} {
		s := made(t, config(), one(op))
		for i := range 33 {
			s.Pick(7)
			s.Pick(0)
			want := api.Event{Kind: op.Kind, Began: 1, Ended: -1, Point: -1, Steps: i + 1}
			if i >= 28 {
				want.Point = 57
			}
			if i == 32 {
				want.Ended, want.Version = 65, 6
			}
			r := s.Run()
			wantEvents(t, r, want)
			versions := []api.Version{{Number: 5, Addr: 6, Size: 21, Point: -1, Gone: -1}, {Number: 6, Addr: 27, Size: 21, Point: 57, Gone: -1}}
			if i >= 31 {
				versions[0].Gone = 63
			}
			if i < 28 {
				versions = versions[:1]
			}
			wantVersions(t, r, versions, small, small+"except ann on door: open;")
			bytes, safe := 82, 82
			if i >= 5 {
				bytes = 191
			}
			if i >= 6 {
				safe = 191
			}
			if len(r.Disk) != bytes || r.Synced != safe {
				t.Errorf("behind %d steps: %d bytes, %d of them safe", i+1, len(r.Disk), r.Synced)
			}
			live := 1
			if i >= 4 && i < 31 {
				live = 2
			}
			if r.Live[2*i] != 1 && i < 4 || r.Live[2*i+1] != live {
				t.Errorf("behind %d steps: Live %v", i+1, r.Live)
			}
		}
		wantTrace(t, s.Run(), 1, "add 2 1, -, load 3 0, -, load 0 6, -, load 6 5, -, take 27 21, -, append 6, -, sync, -")
	}
}

// refused are writes that fail, each with its Code, the steps it makes, and the configuration.
func refused() []struct {
	what  string
	c     func(c *api.Config)
	op    api.Op
	code  api.Errno
	steps int
} {
	none := func(*api.Config) {}
	words := func(n int) func(c *api.Config) { return func(c *api.Config) { c.Words = n } }
	room := func(n int) func(c *api.Config) { return func(c *api.Config) { c.Disk = n } }
	last := func(c *api.Config) { c.First = 1<<31 - 1 }
	return []struct {
		what  string
		c     func(c *api.Config)
		op    api.Op
		code  api.Errno
		steps int
	}{
		{"a text with a byte that may not be", none, update("?"), api.ErrByte, 5},
		{"a text that breaks off", none, update("subject ann"), api.ErrSyntax, 5},
		{"a text of a name that is not there", none, update("member ann : clerk;"), api.ErrUnknown, 5},
		{"a text that is too long", none, update(strings.Repeat("#", 65537)), api.ErrLong, 5},
		{"a subject that is there", none, apply(newSubject("ann")), api.ErrTwice, 5},
		{"the second delta", none, apply(newSubject("eve"), newSubject("eve")), api.ErrTwice, 5},
		{"a delta of no kind", none, apply(api.Delta{}), api.ErrKind, 5},
		{"no rule", none, apply(api.Delta{Kind: api.DeltaDrop, At: 2}), api.ErrNoRule, 5},
		{"too many deltas", none, apply(make([]api.Delta, 257)...), api.ErrMany, 5},
		{"a subject that is not there", none, revoke(api.Triple{Subject: "eve", Object: "door", Action: "open"}), api.ErrUnknown, 5},
		{"no names", none, revoke(api.Triple{}), api.ErrUnknown, 5},
		{"the last version", last, revoke(door), api.ErrWorn, 5},
		{"the last version, and a text", last, update(""), api.ErrWorn, 5},
		{"the last version, and no text", last, update("?"), api.ErrByte, 5},
		{"no words", words(47), revoke(door), api.ErrRoom, 6},
		{"no words at all", words(27), update("subject ann;"), api.ErrRoom, 6},
		{"no words, and no bytes", func(c *api.Config) { c.Words, c.Disk = 47, 82 }, revoke(door), api.ErrRoom, 6},
		{"no bytes", room(190), revoke(door), api.ErrFull, 8},
		{"no bytes at all", room(82), update(""), api.ErrFull, 8},
	}
}

func TestWritesThatFail(t *testing.T) {
	for _, x := range refused() {
		c := config()
		x.c(&c)
		for flaw := range 7 {
			c.Flaw = flaw
			was := made(t, c, one(x.op)).Run()
			s := made(t, c, one(x.op, version(), register(), version()))
			steps, point := x.steps, 2
			if flaw == api.FlawNoLock {
				steps, point = steps-3, 0
			}
			for i := range steps {
				want := api.Event{Kind: x.op.Kind, Began: 0, Ended: -1, Point: -1, Steps: i}
				if i > 0 {
					wantEvents(t, s.Run(), want)
				}
				s.Pick(0)
			}
			r := s.Run()
			wantEvents(t, r, api.Event{Kind: x.op.Kind, Began: 0, Ended: steps - 1, Point: point, Steps: steps, Code: x.code})
			if r.Disk != was.Disk || r.Synced != was.Synced || len(r.Versions) != 1 || r.Versions[0].Gone != -1 {
				t.Errorf("%s: something has changed: %+v", x.what, r)
			}
			if r.Live[steps-1] != 1 {
				t.Errorf("%s: Live %v", x.what, r.Live)
			}
			toEnd(t, s, 0) // the version is the one of before
			if e := s.Run().Events[3]; e.Version != c.First || e.Broken {
				t.Errorf("%s: %+v", x.what, e)
			}
			if t.Failed() {
				t.Fatalf("%s, flaw %d", x.what, flaw)
			}
		}
	}
}

// With just enough words and bytes it does not fail.
func TestWritesWithJustEnough(t *testing.T) {
	c := config()
	c.Words, c.Disk = 48, 191
	wantEvents(t, finished(t, c, revoke(door)), api.Event{Kind: api.OpRevoke, Ended: 32, Point: 28, Steps: 33, Version: 6})
	c.First = 1<<31 - 2
	r := finished(t, c, revoke(door), revoke(door))
	if want := []api.Errno{api.OK, api.ErrWorn}; !slices.Equal(codes(r), want) || r.Events[0].Version != 1<<31-1 {
		t.Errorf("%+v", r.Events)
	}
	// The second write has room again in what the first one gave back, not on the disk.
	c = config()
	c.Words, c.Disk = 48, 191+109
	r = finished(t, c, revoke(door), revoke(door), revoke(door))
	if want := []api.Errno{api.OK, api.OK, api.ErrFull}; !slices.Equal(codes(r), want) {
		t.Errorf("the codes are %v, want %v", codes(r), want)
	}
	wantVersions(t, r, []api.Version{{Number: 5, Addr: 6, Size: 21, Point: -1, Gone: 31}, {Number: 6, Addr: 27, Size: 21, Point: 28, Gone: 64}, {Number: 7, Addr: 6, Size: 21, Point: 61, Gone: -1}}, small, small+"except ann on door: open;", small+"except ann on door: open;")
}

// Operations of no kind: one step, without an access, whatever else stands in them.
func TestKindsThatAreNone(t *testing.T) {
	n := 0
	for kind := math.MinInt8; kind <= math.MaxInt8; kind++ {
		if kind >= 1 && kind <= 7 {
			continue
		}
		n++
		op := api.Op{Kind: int8(kind), Triple: api.Triple{Subject: "eve", Object: "gate", Action: "x"}, Text: "subject eve;", Deltas: []api.Delta{newSubject("eve")}}
		s := made(t, config(), one(op, register(), op))
		wantReady(t, s, 0, true)
		toEnd(t, s, 0)
		r := s.Run()
		wantEvents(t, r,
			api.Event{Kind: int8(kind), Point: -1, Steps: 1, Code: api.ErrArg},
			api.Event{Number: 1, Kind: api.OpRegister, Began: 1, Ended: 1, Point: -1, Steps: 1},
			api.Event{Number: 2, Kind: int8(kind), Began: 2, Ended: 2, Point: -1, Steps: 1, Code: api.ErrArg})
		if want := "-, swap 5 1, -"; strings.Join(sayAll(r.Trace), ", ") != want || len(r.Symbols) != 3 || len(r.Versions) != 1 {
			t.Errorf("%v, %v", sayAll(r.Trace), r.Symbols)
		}
	}
	if n != 249 {
		t.Errorf("%d kinds", n)
	}
}

// Writes one behind the other: each makes of the policy that is there what its operation says.
func TestWritesBehindOneAnother(t *testing.T) {
	ops := []api.Op{
		revoke(door),
		apply(newSubject("eve"), api.Delta{Kind: api.DeltaAllow, Rule: api.Rule{Who: "eve", What: "door"}}),
		update("?"),
		revoke(api.Triple{Subject: "eve", Object: "door", Action: "open"}),
		apply(api.Delta{Kind: api.DeltaRestore, Triple: door}),
		apply(),
		update(house),
		revoke(api.Triple{Subject: "ann", Object: "door1", Action: "open"}),
		update(""),
	}
	c := great()
	c.Text = small
	r := finished(t, c, ops...)
	p := load(t, small)
	texts := []string{textOf(t, p)}
	bytes := frame(t, 1, textOf(t, p))
	for i, op := range ops {
		if i == 2 {
			if r.Events[i].Code != api.ErrByte || r.Events[i].Version != 0 {
				t.Errorf("%+v", r.Events[i])
			}
			continue
		}
		var e api.Errno
		switch op.Kind {
		case api.OpRevoke:
			p, e = delta.Revoke(p, op.Triple)
		case api.OpApply:
			p, _, e = delta.Apply(p, op.Deltas)
		default:
			p = load(t, op.Text)
		}
		texts = append(texts, textOf(t, p))
		bytes += frame(t, len(texts), textOf(t, p))
		v := r.Versions[len(texts)-1]
		size := sizeOf(t, textOf(t, p))
		if e != api.OK || v.Number != len(texts) || v.Size != size || textOf(t, v.Policy) != textOf(t, p) || v.Point != r.Events[i].Point {
			t.Errorf("operation %d: the version is %+v", i, v)
		}
		if x := r.Events[i]; x.Code != api.OK || x.Version != len(texts) || x.Steps != store.WriteSteps(size, 2) || x.Ended != x.Began+x.Steps-1 {
			t.Errorf("operation %d: %+v", i, x)
		}
		if old := r.Versions[len(texts)-2]; old.Gone != r.Events[i].Ended-1 {
			t.Errorf("operation %d: the old version is %+v", i, old)
		}
	}
	if len(r.Versions) != len(texts) || r.Disk != bytes || r.Synced != len(bytes) || r.Versions[len(texts)-1].Gone != -1 {
		t.Errorf("%d versions; the disk has %q", len(r.Versions), r.Disk)
	}
	g := graph.Compile(load(t, house))
	want := []string{"open", "ann", "door", "eve"}
	for _, name := range slices.Concat(g.Actions, g.Subjects, g.Objects) {
		if !slices.Contains(want, name) {
			want = append(want, name)
		}
	}
	if !slices.Equal(r.Symbols, want) {
		t.Errorf("the symbols are %q, want %q", r.Symbols, want)
	}
}

// A check meets the page that counts when it looks, a version too.
func TestReadsBetweenWrites(t *testing.T) {
	c := config()
	c.Words, c.Disk, c.Sets, c.Ways = 200, 4000, 1, 4
	s := made(t, c, [][]api.Op{
		{register(), check(door), check(door), version(), check(door), check(door), check(door), version()},
		{revoke(door), apply(api.Delta{Kind: api.DeltaRestore, Triple: door}), update("subject ann;")},
	})
	run := func(task, operations int) {
		for n := range 10000 {
			ended := 0
			for _, e := range s.Run().Events {
				if e.Task == task && e.Ended >= 0 {
					ended++
				}
			}
			if ended == operations || n == 9999 {
				return
			}
			s.Pick(task)
		}
	}
	run(0, 3)
	run(1, 1)
	run(0, 5)
	run(1, 2)
	run(0, 6)
	run(1, 3)
	run(0, 8)
	var got []string
	for _, e := range s.Run().Events {
		if e.Task == 0 {
			got = append(got, strconv.FormatBool(e.Allowed)+" "+strconv.FormatBool(e.Hit)+" "+strconv.Itoa(e.Version))
		}
	}
	want := []string{"false false 0", "true false 5", "true true 5", "false false 6", "false false 6", "true false 7", "false false 8", "false false 8"}
	if !slices.Equal(got, want) {
		t.Errorf("%q, want %q", got, want)
	}
}
