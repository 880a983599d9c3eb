package writer_test

import (
	"math"
	"slices"
	"strconv"
	"strings"
	"testing"

	"gatehouse/api"
	"gatehouse/writer"
)

// 24.3: what is refused, with each Code, and what is left behind

// refusal is an operation that SMALL's site refuses behind the load of the version, and its Code.
type refusal struct {
	what string
	op   api.Op
	code api.Errno
}

func refusals() []refusal {
	delta := func(kind int8, name string) api.Op { return apply(api.Delta{Kind: kind, Name: name, Trust: 1}) }
	many := slices.Repeat([]api.Delta{{Kind: api.DeltaTrust, Name: "ann", Trust: 1}}, 257)
	var actions strings.Builder
	for i := range 17 {
		actions.WriteString("action a" + strconv.Itoa(i) + ";")
	}
	l := []refusal{
		{"no byte of a text", update("action open?;"), api.ErrByte},
		{"no UTF-8", update("subject \xff;"), api.ErrByte},
		{"a quote without an end", update(`subject "ann;`), api.ErrQuote},
		{"an escape", update(`subject "\q";`), api.ErrEscape},
		{"a number", update("subject ann trust 2;"), api.ErrNumber},
		{"a name", update("subject " + strings.Repeat("a", 33) + ";"), api.ErrName},
		{"no end", update("subject ann"), api.ErrSyntax},
		{"no end, DOC.md's", update("subject ann; object door"), api.ErrSyntax},
		{"an unknown name", update("member ann : clerk;"), api.ErrUnknown},
		{"a name that comes twice", update("subject ann, ann;"), api.ErrTwice},
		{"too many actions", update(actions.String()), api.ErrMany},
		{"too many bytes", update(strings.Repeat(" ", api.MaxText+1)), api.ErrLong},
		{"the first of two faults", update("member ann : clerk; subject ann, ann;"), api.ErrTwice},
		{"the delta's kind", delta(18, "x"), api.ErrKind},
		{"no delta's kind", delta(0, "x"), api.ErrKind},
		{"no subject", delta(api.DeltaTrust, "bob"), api.ErrUnknown},
		{"a subject that is there", delta(api.DeltaSubject, "ann"), api.ErrTwice},
		{"no name", delta(api.DeltaRole, ""), api.ErrName},
		{"no trust", apply(api.Delta{Kind: api.DeltaSubject, Name: "bob", Trust: math.NaN()}), api.ErrNumber},
		{"no rule", apply(api.Delta{Kind: api.DeltaDrop, At: 2}), api.ErrNoRule},
		{"no pair", apply(api.Delta{Kind: api.DeltaUnmember}), api.ErrNoPair},
		{"no except", apply(api.Delta{Kind: api.DeltaRestore, Triple: door}), api.ErrNoExcept},
		{"the second of two deltas", apply(newSubject("bob"), newSubject("bob")), api.ErrTwice},
		{"too many deltas", apply(many...), api.ErrMany},
		{"no such subject", api.Op{Kind: api.OpRevoke, Triple: api.Triple{Subject: "bob", Object: "door", Action: "open"}}, api.ErrUnknown},
		{"no such object", api.Op{Kind: api.OpRevoke, Triple: api.Triple{Subject: "ann", Object: "ann", Action: "open"}}, api.ErrUnknown},
		{"no such action", api.Op{Kind: api.OpRevoke, Triple: api.Triple{Subject: "ann", Object: "door", Action: "shut"}}, api.ErrUnknown},
		{"no triple", api.Op{Kind: api.OpRevoke, Text: small, Deltas: many}, api.ErrUnknown},
	}
	for _, kind := range []int8{0, -1, api.OpRegister, api.OpUnregister, api.OpCheck, api.OpVersion, 8, 9, 100, math.MaxInt8, math.MinInt8} {
		l = append(l, refusal{"a kind", api.Op{Kind: kind, Triple: door, Text: small, Deltas: []api.Delta{newSubject("bob")}}, api.ErrArg})
	}
	return l
}

// withLock has the ticket ahead of the accesses and the end behind them, but with FlawNoLock.
func withLock(flaw int, accesses string) string {
	if flaw == api.FlawNoLock {
		return accesses
	}
	return "2+1 3 " + accesses + " 3+1"
}

// wantFailed makes a write that is refused: its accesses, its Code, its point, which is the moment of the load of the current word; but for the lock's words, what the memory's words are told to be, and what was noted, all is as it was.
func wantFailed(t *testing.T, b *bench, op api.Op, code api.Errno, accesses string, change func(s *state)) {
	t.Helper()
	was := stateOf(t, b)
	x := made(t, b, op)
	accesses = withLock(b.Flaw, accesses)
	wantRun(t, b, x, 70, accesses)
	point := 70 + slices.Index(strings.Fields(accesses), strconv.Itoa(b.Current))
	wantTold(t, b, x, point, -1, writer.Outcome{Code: code, Old: x.Outcome().Old})
	if old, _ := wordAt(b.Memory, b.Current); x.Outcome().Old != old {
		t.Errorf("Old is %d, want %d", x.Outcome().Old, old)
	}
	if b.Flaw != api.FlawNoLock {
		was.words[nextAt]++
		was.words[servingAt]++
	}
	was.trace += steps(accesses)
	was.bad = b.Memory.Bad()
	if change != nil {
		change(&was)
	}
	wantState(t, b, was)
}

// Each refusal with each flaw: the last step, or the end, comes at once.
func TestRefusedChanges(t *testing.T) {
	for _, r := range refusals() {
		for _, flaw := range flaws() {
			for _, slots := range []int{1, 3} {
				b := benchOf(t, 100, slots, 500, flaw)
				at := slotsAt + 2*slots
				wantBegun(t, b, 5, load(t, small), at)
				wantFailed(t, b, r.op, r.code, "0 "+strconv.Itoa(at), nil)
				if t.Failed() {
					t.Fatalf("%s, flaw %d", r.what, flaw)
				}
			}
		}
	}
}

// worn are versions behind which there is none, or which are none.
func worn() []int {
	return []int{0, -1, -5, math.MinInt, api.MaxVersion, api.MaxVersion + 1, 1 << 32, 1<<32 + 1, math.MaxInt, poison + 1, poison}
}

// The version is asked behind the change, and ahead of the page.
func TestVersionsBehindWhichThereIsNone(t *testing.T) {
	for _, version := range worn() {
		for _, flaw := range flaws() {
			b := site(t, flaw)
			set(b.Memory, 6, version)
			for _, op := range []api.Op{revoke(), apply(newSubject("bob")), update("subject zoe;"), update(house)} {
				wantFailed(t, b, op, api.ErrWorn, "0 6", nil) // bob and zoe get no numbers
			}
			for _, r := range refusals() {
				wantFailed(t, b, r.op, r.code, "0 6", nil)
			}
			if t.Failed() {
				t.Fatalf("version %d, flaw %d", version, flaw)
			}
		}
	}
}

// The first version and the last one but one, and those between, are followed by the next one.
func TestVersionsBehindWhichThereIsOne(t *testing.T) {
	for _, version := range []int{1, 2, 5, 1<<16 - 1, 1 << 30, api.MaxVersion - 2, api.MaxVersion - 1} {
		for _, flaw := range flaws() {
			b := site(t, flaw)
			set(b.Memory, 6, version)
			wantWrite(t, b, revoke(), load(t, small+"except ann on door : open;"))
			if word, _ := wordAt(b.Memory, 27); word != version+1 {
				t.Errorf("behind the version %d comes %d", version, word)
			}
		}
	}
}

// There is no number left: the page is not laid; what has numbers goes well. The page is asked behind the version.
func TestWritesWithAFullIndex(t *testing.T) {
	full := fullIndex("open", "ann", "door")
	count := func(b *bench) state { // without its million names
		known := b.Index
		b.Index = nil
		defer func() { b.Index = known }()
		return state{words: allWords(t, b.Memory), blocks: b.Arena.Blocks(), bytes: b.disk.Bytes(), trace: len(b.Memory.Trace())}
	}
	for _, op := range []api.Op{apply(newSubject("bob")), update(house), update("action shut;")} {
		b := site(t, 0)
		b.Index = full
		x := made(t, b, op)
		was := count(b)
		toEnd(t, x)
		if x.Outcome() != (writer.Outcome{Code: api.ErrMany, Old: 6}) || x.Point() != 2 || x.Freed() != -1 {
			t.Errorf("%+v, point %d", x.Outcome(), x.Point())
		}
		was.words[nextAt], was.words[servingAt] = 1, 1
		if is := count(b); !slices.Equal(is.words, was.words) || !slices.Equal(is.blocks, was.blocks) || is.bytes != was.bytes || is.trace != was.trace+5 || full.Len() != api.MaxSymbols || len(b.Book) != 1 {
			t.Errorf("%+v, want %+v", is, was)
		}
		set(b.Memory, 6, api.MaxVersion)
		x = made(t, b, op)
		toEnd(t, x)
		if x.Outcome() != (writer.Outcome{Code: api.ErrWorn, Old: 6}) {
			t.Errorf("%+v", x.Outcome())
		}
	}
	b := site(t, 0)
	b.Index = full
	x := made(t, b, revoke())
	toEnd(t, x)
	if x.Outcome() != (writer.Outcome{Version: 6, Page: 27, Size: 21, Old: 6}) {
		t.Errorf("%+v", x.Outcome())
	}
}

// Room for one page more, and for one word less: the take is refused, and the write with it. The names have their numbers.
func TestJustEnoughWords(t *testing.T) {
	for _, flaw := range flaws() {
		b := begun(t, 48, 500, flaw)
		wantWrite(t, b, revoke(), load(t, small+"except ann on door : open;"))
		wantWrite(t, b, revoke(), load(t, small+"except ann on door : open;")) // where the first page was

		b = begun(t, 47, 500, flaw)
		wantFailed(t, b, revoke(), api.ErrRoom, "0 6 take:21!", nil)
		wantFailed(t, b, apply(newSubject("bob")), api.ErrRoom, "0 6 take:22!", func(s *state) { s.symbols = append(s.symbols, "bob") })
		wantFailed(t, b, update(house), api.ErrRoom, "0 6 take:72!", func(s *state) {
			s.symbols = append(s.symbols, "read", "write", "the night watch", "door1", "door2", "vault")
		})
		wantWrite(t, b, update("subject bob;"), load(t, "subject bob;")) // a smaller page goes well

		// Enough words, but not behind one another.
		b = begun(t, 90, 500, flaw)
		must(t, "Take", codeOf(b.Arena.Take(20)))
		must(t, "Take", codeOf(b.Arena.Take(22)))
		must(t, "Give", b.Arena.Give(27))
		wantFailed(t, b, apply(newSubject("bob")), api.ErrRoom, "0 6 take:22!", func(s *state) { s.symbols = append(s.symbols, "bob") })
		wantFailed(t, b, update(small+"object vault;"), api.ErrRoom, "0 6 take:22!", func(s *state) { s.symbols = append(s.symbols, "vault") })
		wantWrite(t, b, revoke(), load(t, small+"except ann on door : open;"))
		if t.Failed() {
			t.Fatalf("flaw %d", flaw)
		}
	}
}

func codeOf(_ int, e api.Errno) api.Errno { return e }

// Room for one record more, and for one byte less: the piece is given back, and its words are poisoned.
func TestJustEnoughBytes(t *testing.T) {
	for _, flaw := range flaws() {
		b := begun(t, 100, 82+109, flaw)
		wantWrite(t, b, revoke(), load(t, small+"except ann on door : open;"))
		wantFailed(t, b, update(""), api.ErrFull, "0 27 take:8@6 append:7! free:6", func(s *state) { copy(s.words[6:], slices.Repeat([]int{poison}, 8)) })

		b = begun(t, 100, 82+108, flaw)
		poisoned := func(s *state) { copy(s.words[27:], slices.Repeat([]int{poison}, 21)) }
		wantFailed(t, b, revoke(), api.ErrFull, "0 6 take:21@27 append:6! free:27", poisoned)
		wantFailed(t, b, revoke(), api.ErrFull, "0 6 take:21@27 append:6! free:27", poisoned)
		wantFailed(t, b, update(house), api.ErrFull, "0 6 take:72@27 append:6! free:27", func(s *state) {
			copy(s.words[27:], slices.Repeat([]int{poison}, 72))
			s.symbols = append(s.symbols, "read", "write", "bob", "the night watch", "door1", "door2", "vault")
		})
		wantWrite(t, b, update(""), load(t, "")) // a shorter record goes well

		b = begun(t, 47, 82, flaw) // the room of the arena is asked first
		wantFailed(t, b, revoke(), api.ErrRoom, "0 6 take:21!", nil)
		if t.Failed() {
			t.Fatalf("flaw %d", flaw)
		}
	}
}

// A record that is there and not safe is neither made safe nor harmed by a write that fails; by one that goes well it is made safe.
func TestARecordThatIsNotSafe(t *testing.T) {
	b := site(t, 0)
	must(t, "Append", b.Journal.Append(api.Entry{Version: 3, Text: "x"}))
	wantFailed(t, b, update("?"), api.ErrByte, "0 6", nil)
	if b.disk.Safe() != 82 {
		t.Errorf("%d bytes are safe", b.disk.Safe())
	}
	wantWrite(t, b, revoke(), load(t, small+"except ann on door : open;"))
}

// The moment of a refusal is that of the load of the current word, whatever the others are.
func TestTheMomentOfARefusal(t *testing.T) {
	moments := []int{math.MinInt, -1, 0, 7, math.MaxInt}
	for _, flaw := range []int{api.FlawNone, api.FlawNoLock} {
		for _, looked := range moments {
			for _, other := range moments {
				for _, c := range []struct {
					words, room int
					op          api.Op
					code        api.Errno
				}{{100, 500, update("?"), api.ErrByte}, {47, 500, revoke(), api.ErrRoom}, {100, 150, revoke(), api.ErrFull}} {
					b := begun(t, c.words, c.room, flaw)
					x := made(t, b, c.op)
					look := 2
					if flaw == api.FlawNoLock {
						look = 0
					}
					for i, last := 0, false; i < 200 && !last; i++ {
						now := other
						if i == look {
							now = looked
						}
						if last = x.Step(now); !last && x.Outcome().Code == api.OK && x.Point() != -1 {
							t.Errorf("the point is %d behind the step %d", x.Point(), i)
						}
					}
					wantTold(t, b, x, looked, -1, writer.Outcome{Code: c.code, Old: 6})
				}
			}
		}
	}
}
