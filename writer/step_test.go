package writer_test

import (
	"math"
	"slices"
	"strconv"
	"strings"
	"testing"

	"gatehouse/api"
	"gatehouse/writer"
)

// 24.2, 24.3, 24.8

// looks are the loads of so many slots.
func looks(slots int) string {
	var l []string
	for slot := range slots {
		l = append(l, strconv.Itoa(slotsAt+slot))
	}
	return strings.Join(l, " ")
}

// plan is a write that is not refused and waits for nothing, as the flaw has it.
type plan struct {
	flaw, version, old, page, slots int
	words                           []int
}

func (p plan) accesses() string {
	page, version := strconv.Itoa(p.page), strconv.Itoa(p.version)
	shown := []string{stores(p.page, p.words), "0=" + page}
	if p.flaw == api.FlawEarly {
		slices.Reverse(shown)
	}
	wait, end := "1+1 "+looks(p.slots), "3+1"
	if p.flaw == api.FlawNoWait {
		wait = ""
	}
	lock := "2+1 3"
	if p.flaw == api.FlawNoLock {
		lock, end = "", ""
	}
	old := strconv.Itoa(p.old)
	return strings.Join([]string{lock, "0", old, "take:" + strconv.Itoa(len(p.words)) + "@" + page, "append:" + version, "sync", shown[0], shown[1], wait, "free:" + old, end}, " ")
}

// point and freed are the places of the steps H and J.
func (p plan) point() int {
	list := strings.Fields(p.accesses())
	return slices.Index(list, "0="+strconv.Itoa(p.page))
}

func (p plan) freed() int {
	return slices.Index(strings.Fields(p.accesses()), "free:"+strconv.Itoa(p.old))
}

func (p plan) outcome() writer.Outcome {
	return writer.Outcome{Version: p.version, Page: p.page, Size: len(p.words), Old: p.old}
}

// roomFor is where so many words will be had.
func roomFor(t *testing.T, b *bench, n int) int {
	t.Helper()
	for _, piece := range b.Arena.Blocks() {
		if piece.Free && piece.Size >= n {
			return piece.Addr
		}
	}
	t.Fatalf("no room for %d words", n)
	return 0
}

// planOf is the write of a policy that nobody disturbs.
func planOf(t *testing.T, b *bench, want api.Policy) plan {
	t.Helper()
	old, _ := wordAt(b.Memory, b.Current)
	version, _ := wordAt(b.Memory, old)
	p := plan{flaw: b.Flaw, version: version + 1, old: old, slots: b.slots}
	p.words = pageOf(t, b, p.version, want)
	p.page = roomFor(t, b, len(p.words))
	return p
}

// wantWrite makes a write from its first step to its last, and looks at all that it leaves behind.
func wantWrite(t *testing.T, b *bench, op api.Op, want api.Policy) {
	t.Helper()
	p, bytes, live, pages := planOf(t, b, want), b.disk.Bytes(), b.Arena.Live(), len(b.Book)
	if _, there := b.Book[p.page]; !there {
		pages++
	}
	x := made(t, b, op)
	wantTold(t, b, x, -1, -1, writer.Outcome{})
	wantRun(t, b, x, 1000, p.accesses())
	wantTold(t, b, x, 1000+p.point(), 1000+p.freed(), p.outcome())
	wantPolicy(t, b, p.page, want)
	if len(b.Book) != pages {
		t.Errorf("the book has %d pages, want %d", len(b.Book), pages)
	}
	if got := pageOf(t, b, p.version, want); !slices.Equal(got, p.words) {
		t.Errorf("the index has other numbers now: %v, %v", got, p.words)
	}
	record := frame(t, api.Entry{Version: p.version, Text: textOf(t, want)})
	if b.disk.Bytes() != bytes+record || b.disk.Safe() != len(bytes+record) {
		t.Errorf("the disk has %q, %d bytes of it safe", b.disk.Bytes(), b.disk.Safe())
	}
	all := allWords(t, b.Memory)
	if all[b.Current] != p.page || !slices.Equal(all[p.page:p.page+len(p.words)], p.words) || all[p.old] != poison || b.Arena.Live() != live {
		t.Errorf("the words are %v, %d pieces are out", all, b.Arena.Live())
	}
}

// A machine that is made has made no step.
func TestNewDoesNothing(t *testing.T) {
	for _, flaw := range flaws() {
		b := site(t, flaw)
		b.Memory.Poison(nextAt, 2)
		was := stateOf(t, b)
		for kind := int8(-2); kind < 10; kind++ {
			op := api.Op{Kind: kind, Text: "subject zoe;", Triple: door, Deltas: []api.Delta{newSubject("eve")}}
			x := made(t, b, op)
			wantTold(t, b, x, -1, -1, writer.Outcome{})
			wantReady(t, b, x, true)
		}
		wantState(t, b, was)
	}
}

// change is an operation, and the text of what it makes of the policy ahead of it.
type change struct {
	op   api.Op
	text string
}

// changes come one behind the other, from SMALL on: all kinds of operations; names that are known, that are new, and that come again; pages that are greater and smaller.
func changes() []change {
	rule := api.Rule{Deny: true, Who: "eve", What: "door", Cond: api.Below, Level: 0.25}
	const two = "action open; subject ann; subject eve trust 0.5; object door; allow ann on door: open;"
	return []change{
		{revoke(), small + "except ann on door: open;"},
		{revoke(), small + "except ann on door: open;"}, // what is revoked may be revoked again
		{apply(api.Delta{Kind: api.DeltaRestore, Triple: door}), small},
		{apply(newSubject("eve")), two},
		{apply(), two},
		{apply(api.Delta{Kind: api.DeltaAllow, Rule: rule}, api.Delta{Kind: api.DeltaRole, Name: "clerk"}, api.Delta{Kind: api.DeltaMember, Pair: api.Pair{From: "eve", To: "clerk"}}), two + "role clerk; member eve : clerk; deny eve on door : * below 0.25;"},
		{update(""), ""},
		{apply(), ""},
		{update(house), house},
		{api.Op{Kind: api.OpRevoke, Triple: api.Triple{Subject: "bob", Object: "vault", Action: "write"}}, house + "except bob on vault : write;"},
		{apply(api.Delta{Kind: api.DeltaDrop, At: 1}, api.Delta{Kind: api.DeltaDrop, At: 1}), strings.NewReplacer("allow clerk on building : open, read above 0.25;", "", "deny guard on vault : *;", "").Replace(house) + "except bob on vault : write;"},
		{update(small), small},
		{update("# nothing but a remark"), ""},
	}
}

// Each kind of operation, one behind the other, with each flaw and with few slots and many.
func TestWritesOneBehindTheOther(t *testing.T) {
	for _, flaw := range flaws() {
		for _, slots := range []int{1, 2, 3, 16} {
			b := benchOf(t, 300, slots, 20000, flaw)
			wantBegun(t, b, 1, load(t, small), slotsAt+2*slots)
			for i, c := range changes() {
				wantWrite(t, b, c.op, load(t, c.text))
				if t.Failed() {
					t.Fatalf("flaw %d, %d slots, the change %d", flaw, slots, i)
				}
			}
		}
	}
}

// 11 steps, and the words of the page, and the slots; two less without the lock's ticket and the end, and so on.
func TestTheNumberOfSteps(t *testing.T) {
	for _, text := range texts() {
		for slots := 1; slots <= api.MaxSlots; slots++ {
			for _, flaw := range []int{api.FlawNone, api.FlawNoWait, api.FlawEarly, api.FlawNoLock} {
				b := benchOf(t, 5000, slots, 20000, flaw)
				wantBegun(t, b, 1, load(t, small), slotsAt+2*slots)
				want := 11 + len(pageOf(t, b, 2, load(t, text))) + slots
				switch flaw {
				case api.FlawNoWait:
					want -= 1 + slots
				case api.FlawNoLock:
					want -= 3
				}
				x := made(t, b, update(text))
				for n := 1; n <= want; n++ {
					if !x.Ready() {
						t.Fatalf("ahead of the step %d it is not ready", n)
					}
					if last := x.Step(-n); last != (n == want) {
						t.Fatalf("%q, %d slots, flaw %d: the step %d of %d is the last: %v", text, slots, flaw, n, want, last)
					}
				}
				if got := len(b.Memory.Trace()) - 1 - 4 - len(pageOf(t, b, 1, load(t, small))); got != want {
					t.Errorf("%q, %d slots, flaw %d: %d entries, want %d", text, slots, flaw, got, want)
				}
			}
		}
	}
}

// Moments are any ints, in any order; they make no difference but to what is told of them.
func TestAnyMoments(t *testing.T) {
	moments := []int{math.MinInt, -2, -1, 0, 1, 1 << 32, math.MaxInt}
	for _, flaw := range []int{api.FlawNone, api.FlawNoWait, api.FlawEarly, api.FlawNoLock} {
		for _, point := range moments {
			for _, freed := range moments {
				for _, other := range moments {
					b := site(t, flaw)
					p := planOf(t, b, load(t, small+"except ann on door: open;"))
					x := made(t, b, revoke())
					for i := range steps(p.accesses()) {
						now := other
						switch i {
						case p.point():
							now = point
						case p.freed():
							now = freed
						}
						x.Step(now)
					}
					wantTold(t, b, x, point, freed, p.outcome())
				}
			}
		}
	}
}

// Behind the last step the lock, the slots and the pieces are another's.
func TestBehindTheLastStepAllIsAnothers(t *testing.T) {
	for _, flaw := range []int{api.FlawNone, api.FlawNoWait, api.FlawEarly, api.FlawNoLock} {
		b := site(t, flaw)
		x := made(t, b, revoke())
		toEnd(t, x)
		y := made(t, b, apply(newSubject("eve")))
		for now := 0; now < 200 && !y.Step(now); now++ {
			wantOver(t, b, x)
		}
		wantTold(t, b, y, y.Point(), y.Freed(), writer.Outcome{Version: 7, Page: 6, Size: 21, Old: 27})
	}
}
