package writer_test

import (
	"fmt"
	"math"
	"reflect"
	"slices"
	"strconv"
	"strings"
	"testing"

	"gatehouse/api"
	"gatehouse/arena"
	"gatehouse/canon"
	"gatehouse/cells"
	"gatehouse/disk"
	"gatehouse/epoch"
	"gatehouse/graph"
	"gatehouse/journal"
	"gatehouse/lock"
	"gatehouse/names"
	"gatehouse/own"
	"gatehouse/page"
	"gatehouse/valid"
	"gatehouse/writer"
)

// The fixed words; the arena begins behind two words for each slot.
const epochAt, nextAt, servingAt, slotsAt = 1, 2, 3, 4

const poison = api.Poison

const small = "action open; subject ann; object door; allow ann on door: open;"

// door is the triple of the chapter's examples.
var door = api.Triple{Subject: "ann", Object: "door", Action: "open"}

func revoke() api.Op { return api.Op{Kind: api.OpRevoke, Triple: door} }

func update(text string) api.Op { return api.Op{Kind: api.OpUpdate, Text: text} }

func apply(deltas ...api.Delta) api.Op { return api.Op{Kind: api.OpApply, Deltas: deltas} }

func newSubject(name string) api.Delta {
	return api.Delta{Kind: api.DeltaSubject, Name: name, Trust: 0.5}
}

// bench is a site with all that it is made of.
type bench struct {
	*writer.Site
	disk  *disk.Disk
	slots int
}

func must(t *testing.T, what string, e api.Errno) {
	t.Helper()
	if e != api.OK {
		t.Fatalf("%s: %v", what, e)
	}
}

// benchOf has so many words, slots, and bytes of room on its disk; nothing has begun.
func benchOf(t *testing.T, words, slots, room, flaw int) *bench {
	t.Helper()
	m, e := cells.New(words)
	must(t, "cells.New", e)
	must(t, "Store", m.Store(epochAt, 1))
	l, e := lock.New(m, nextAt, servingAt)
	must(t, "lock.New", e)
	s, e := epoch.New(m, epochAt, slotsAt, slots)
	must(t, "epoch.New", e)
	a, e := arena.New(m, slotsAt+2*slots)
	must(t, "arena.New", e)
	d, e := disk.New(room)
	must(t, "disk.New", e)
	j, _, e := journal.Open(d)
	must(t, "journal.Open", e)
	site := &writer.Site{Memory: m, Lock: l, Slots: s, Arena: a, Journal: j, Index: names.NewIndex[string](), Book: map[int]api.Policy{}, Flaw: flaw}
	return &bench{Site: site, disk: d, slots: slots}
}

// begun is a bench of one slot on which SMALL counts, as version 5, its page at 6.
func begun(t *testing.T, words, room, flaw int) *bench {
	t.Helper()
	b := benchOf(t, words, 1, room, flaw)
	wantBegun(t, b, 5, load(t, small), 6)
	return b
}

// site is the one of the chapter's examples, with a flaw.
func site(t *testing.T, flaw int) *bench {
	t.Helper()
	return begun(t, 100, 500, flaw)
}

func load(t *testing.T, text string) api.Policy {
	t.Helper()
	p, err := valid.Load(text)
	if err != nil {
		t.Fatalf("%q: %v", text, err)
	}
	return p
}

func textOf(t *testing.T, p api.Policy) string {
	t.Helper()
	text, e := canon.Text(p)
	must(t, "canon.Text", e)
	return text
}

// same takes no list and one without elements for one.
func same(t *testing.T, p, q api.Policy) bool {
	t.Helper()
	return textOf(t, p) == textOf(t, q)
}

func wantBegun(t *testing.T, b *bench, version int, p api.Policy, at int) {
	t.Helper()
	if q, e := writer.Begin(b.Site, version, p); q != at || e != api.OK {
		t.Fatalf("Begin = %d, %v, want %d", q, e, at)
	}
}

func wantNotBegun(t *testing.T, b *bench, version int, p api.Policy, code api.Errno) {
	t.Helper()
	if q, e := writer.Begin(b.Site, version, p); q != 0 || e != code {
		t.Errorf("Begin of version %d = %d, %v, want %v", version, q, e, code)
	}
}

func made(t *testing.T, b *bench, op api.Op) *writer.Machine {
	t.Helper()
	x := writer.New(b.Site, op)
	if x == nil {
		t.Fatal("there is no machine")
	}
	return x
}

// twin is an index in which each name has the number that it has in this one.
func twin(x *names.Index[string]) *names.Index[string] {
	y := names.NewIndex[string]()
	for _, name := range x.All() {
		y.Of(name)
	}
	return y
}

// pageOf is a policy's page as it will be laid, its new names with the next numbers.
func pageOf(t *testing.T, b *bench, version int, p api.Policy) []int {
	t.Helper()
	words, e := page.Lay(version, graph.Compile(p), twin(b.Index))
	must(t, "page.Lay", e)
	return words
}

func allWords(t *testing.T, m *cells.Memory) []int {
	t.Helper()
	words, e := m.Words(0, m.Len())
	must(t, "Words", e)
	return words
}

// set writes words from an address on, poisoned ones too.
func set(m *cells.Memory, addr int, words ...int) {
	m.Clear(addr, len(words))
	for i, word := range words {
		if word != 0 {
			m.Store(addr+i, word)
		}
	}
}

// Accesses are written so: "3" a load of the word 3, "4=1" a store of 1 into the word 4, "2+1" an add of 1 to the word 2; "take:21@27" a piece of 21 words at 27 that was taken, "take:21!" one that was refused; "free:6", "free:6!"; "append:6", "append:6!" the record of the version 6; "sync". What a load brings, what stood there, and whether an access is refused, the memory's words tell.
func entry(t *testing.T, m *cells.Memory, text string) api.Access {
	t.Helper()
	plain := strings.TrimSuffix(text, "!")
	good := plain == text
	what, rest, noted := strings.Cut(plain, ":")
	switch {
	case text == "sync":
		return api.Access{Kind: api.AccessSync, Good: true}
	case noted && what == "free":
		return api.Access{Kind: api.AccessFree, Addr: number(t, rest), Good: good}
	case noted && what == "append":
		return api.Access{Kind: api.AccessAppend, Value: number(t, rest), Good: good}
	case noted && what == "take" && !good:
		return api.Access{Kind: api.AccessTake, Value: number(t, rest)}
	case noted && what == "take":
		n, addr, _ := strings.Cut(rest, "@")
		return api.Access{Kind: api.AccessTake, Addr: number(t, addr), Value: number(t, n), Good: true}
	}
	return accessOf(t, m, text)
}

// accessOf is one of the memory's own accesses.
func accessOf(t *testing.T, m *cells.Memory, text string) api.Access {
	t.Helper()
	at := strings.IndexAny(text, "=+")
	if at < 0 {
		word, good := wordAt(m, number(t, text))
		return api.Access{Kind: api.AccessLoad, Addr: number(t, text), Value: word, Good: good}
	}
	x := api.Access{Kind: api.AccessStore, Addr: number(t, text[:at]), Value: number(t, text[at+1:])}
	if text[at] == '+' {
		x.Kind = api.AccessAdd
	}
	x.Old, x.Good = wordAt(m, x.Addr)
	return x
}

// wordAt is a word, 0 outside, and whether an access to it goes well.
func wordAt(m *cells.Memory, addr int) (int, bool) {
	words, e := m.Words(addr, 1)
	if e != api.OK {
		return 0, false
	}
	return words[0], words[0] != poison
}

func number(t *testing.T, text string) int {
	t.Helper()
	n, err := strconv.Atoi(text)
	if err != nil {
		t.Fatalf("%q: %v", text, err)
	}
	return n
}

// stores are a page's words, stored one by one from an address on.
func stores(addr int, words []int) string {
	var l []string
	for i, word := range words {
		l = append(l, fmt.Sprintf("%d=%d", addr+i, word))
	}
	return strings.Join(l, " ")
}

func steps(accesses string) int { return len(strings.Fields(accesses)) }

// wantSteps asks for these accesses, a step each, none of which is the last; the first one's moment is given.
func wantSteps(t *testing.T, b *bench, x *writer.Machine, from int, accesses string) {
	t.Helper()
	wantRow(t, b, x, from, strings.Fields(accesses), false)
}

// wantRun asks for all accesses from here to the end, and that nothing comes behind it.
func wantRun(t *testing.T, b *bench, x *writer.Machine, from int, accesses string) {
	t.Helper()
	wantRow(t, b, x, from, strings.Fields(accesses), true)
	wantOver(t, b, x)
}

func wantRow(t *testing.T, b *bench, x *writer.Machine, from int, accesses []string, last bool) {
	t.Helper()
	m := b.Memory
	want, bad := m.Trace(), m.Bad()
	for i, access := range accesses {
		next := entry(t, m, access)
		if want = append(want, next); !next.Good && next.Kind <= api.AccessAdd {
			bad++
		}
		if got := x.Step(from + i); got != (last && i == len(accesses)-1) {
			t.Errorf("Step(%d), %s: %v", from+i, access, got)
		}
		if got := m.Trace(); !slices.Equal(got, want) {
			t.Fatalf("Step(%d), %s: %d entries, the last ones %v; want %d, %v", from+i, access, len(got), got[max(0, len(got)-2):], len(want), next)
		}
	}
	if m.Bad() != bad {
		t.Errorf("Step(%d) and on: %d accesses were refused, want %d", from, m.Bad(), bad)
	}
}

// toEnd makes all steps of a write that waits for nobody, from the moment 0 on: how many there were.
func toEnd(t *testing.T, x *writer.Machine) int {
	t.Helper()
	for now := range 10000 {
		if x.Step(now) {
			return now + 1
		}
	}
	t.Fatal("the write does not end")
	return 0
}

// state is all that is to be seen of a bench.
type state struct {
	words   []int
	blocks  []api.Block
	bytes   string
	safe    int
	symbols []string
	book    map[int]api.Policy
	trace   int
	bad     int
}

func stateOf(t *testing.T, b *bench) state {
	t.Helper()
	book := map[int]api.Policy{}
	for at, p := range b.Book {
		book[at] = own.Policy(p)
	}
	return state{words: allWords(t, b.Memory), blocks: b.Arena.Blocks(), bytes: b.disk.Bytes(), safe: b.disk.Safe(), symbols: b.symbols(), book: book, trace: len(b.Memory.Trace()), bad: b.Memory.Bad()}
}

func (b *bench) symbols() []string {
	var l []string
	for _, name := range b.Index.All() {
		l = append(l, name)
	}
	return l
}

// wantState asks that all is as it was.
func wantState(t *testing.T, b *bench, was state) {
	t.Helper()
	if is := stateOf(t, b); !reflect.DeepEqual(is, was) {
		t.Errorf("the site has become %+v, from %+v", is, was)
	}
}

// wantOver asks that no step is left.
func wantOver(t *testing.T, b *bench, x *writer.Machine) {
	t.Helper()
	was, point, freed, outcome := stateOf(t, b), x.Point(), x.Freed(), x.Outcome()
	for _, now := range []int{0, -1, 99, math.MinInt, math.MaxInt} {
		if !x.Step(now) || !x.Ready() {
			t.Errorf("behind the last step: Step(%d) = %v, Ready() = %v", now, x.Step(now), x.Ready())
		}
	}
	wantState(t, b, was)
	wantTold(t, b, x, point, freed, outcome)
}

// wantTold asks for the point, the moment at which the old page was given back, and the outcome; asking changes nothing.
func wantTold(t *testing.T, b *bench, x *writer.Machine, point, freed int, want writer.Outcome) {
	t.Helper()
	was := stateOf(t, b)
	for range 2 {
		if got := x.Outcome(); got != want {
			t.Errorf("Outcome() = %+v, want %+v", got, want)
		}
		if x.Point() != point || x.Freed() != freed {
			t.Errorf("Point() = %d, Freed() = %d, want %d, %d", x.Point(), x.Freed(), point, freed)
		}
	}
	wantState(t, b, was)
}

func wantReady(t *testing.T, b *bench, x *writer.Machine, want bool) {
	t.Helper()
	was := stateOf(t, b)
	for range 2 {
		if x.Ready() != want {
			t.Errorf("Ready() = %v, want %v", x.Ready(), want)
		}
	}
	wantState(t, b, was)
}

func wantPolicy(t *testing.T, b *bench, at int, want api.Policy) {
	t.Helper()
	p, there := b.Book[at]
	if !there || !same(t, p, want) {
		t.Errorf("the book has at %d %+v (%v), want %+v", at, p, there, want)
	}
}

func frame(t *testing.T, e api.Entry) string {
	t.Helper()
	record, code := journal.Frame(e)
	must(t, "journal.Frame", code)
	return record
}

// wantSafe asks for the disk's records, all of them safe.
func wantSafe(t *testing.T, b *bench, want ...api.Entry) {
	t.Helper()
	var bytes string
	for _, e := range want {
		bytes += frame(t, e)
	}
	if b.disk.Bytes() != bytes || b.disk.Safe() != len(bytes) {
		t.Errorf("the disk has %q, %d of them safe, want %q", b.disk.Bytes(), b.disk.Safe(), bytes)
	}
}

// dice throws numbers, always the same ones.
type dice uint64

func (d *dice) throw(n int) int {
	*d = *d*6364136223846793005 + 1442695040888963407
	return int(uint64(*d>>33) % uint64(n))
}

func of[T any](d *dice, things []T) T { return things[d.throw(len(things))] }

// corners are ints at which something might change.
func corners() []int {
	return []int{0, 1, -1, 2, -2, 1 << 31, -1 << 31, 1<<62 - 1, 1 << 62, math.MaxInt, math.MaxInt - 1, math.MinInt, math.MinInt + 1, poison - 1, poison + 1, poison}
}

// flaws are those that make a difference, and numbers that are as 0.
func flaws() []int {
	return []int{api.FlawNone, api.FlawNoWait, api.FlawTag, api.FlawEarly, api.FlawLate, api.FlawNoLock, api.FlawEarlyDone, 7, -1, -3, -5, 1 << 32, 1<<32 + 1, math.MaxInt, math.MinInt}
}

// revoked is the page of SMALL without the triple, as version 6.
func revoked() []int {
	return []int{6, 8, 1, 1, 0, 0, 7, 1, 14, 1, 0, 0, 0, 0, 0, 0, 0, 0, 9, 1, 0}
}

// The chapter's examples, in their order.

func TestTheExamplesOfBegin(t *testing.T) {
	b := benchOf(t, 100, 1, 500, 0)
	wantBegun(t, b, 5, load(t, small), 6)
	if words := allWords(t, b.Memory); !slices.Equal(words[:10], []int{6, 1, 0, 0, 0, 0, 5, 8, 1, 1}) {
		t.Errorf("the words are %v", words[:10])
	}
	if b.disk.Safe() != 82 || len(b.disk.Bytes()) != 82 {
		t.Errorf("%d bytes, %d of them safe", len(b.disk.Bytes()), b.disk.Safe())
	}
	for _, c := range []struct {
		words, room, version int
		want                 api.Errno
	}{{26, 500, 5, api.ErrRoom}, {100, 81, 5, api.ErrFull}, {100, 500, 0, api.ErrRange}} {
		b := benchOf(t, c.words, 1, c.room, 0)
		wantNotBegun(t, b, c.version, load(t, small), c.want)
		if b.Arena.Live() != 0 || b.disk.Bytes() != "" {
			t.Errorf("%+v: %d pieces are out, %d bytes on the disk", c, b.Arena.Live(), len(b.disk.Bytes()))
		}
	}
}

func TestTheExamplesOfWrites(t *testing.T) {
	for _, c := range []struct{ flaw, steps, point, freed int }{{0, 33, 28, 31}, {api.FlawNoWait, 31, 28, 29}, {api.FlawEarly, 33, 7, 31}, {api.FlawNoLock, 30, 26, 29}} {
		b := site(t, c.flaw)
		x := made(t, b, revoke())
		if n := toEnd(t, x); n != c.steps {
			t.Errorf("flaw %d: %d steps, want %d", c.flaw, n, c.steps)
		}
		wantTold(t, b, x, c.point, c.freed, writer.Outcome{Version: 6, Page: 27, Size: 21, Old: 6})
	}

	b := site(t, 0)
	x := made(t, b, revoke())
	accesses := "2+1 3 0 6 take:21@27 append:6 sync " + stores(27, revoked()) + " 0=27 1+1 4 free:6 3+1"
	if steps(accesses) != 33 {
		t.Errorf("%d steps", steps(accesses))
	}
	wantRun(t, b, x, 0, accesses)
	wantTold(t, b, x, 28, 31, writer.Outcome{Version: 6, Page: 27, Size: 21, Old: 6})
}

func TestTheExamplesOfRefusals(t *testing.T) {
	const before = "2+1 3 0 6 "
	for _, c := range []struct {
		words, room, version int
		op                   api.Op
		code                 api.Errno
		accesses             string
	}{
		{100, 500, 5, update("subject ann"), api.ErrSyntax, before + "3+1"},
		{100, 500, 5, api.Op{Kind: api.OpCheck}, api.ErrArg, before + "3+1"},
		{100, 500, 2147483647, revoke(), api.ErrWorn, before + "3+1"},
		{47, 500, 5, revoke(), api.ErrRoom, before + "take:21! 3+1"},
		{100, 150, 5, revoke(), api.ErrFull, before + "take:21@27 append:6! free:27 3+1"},
	} {
		b := benchOf(t, c.words, 1, c.room, 0)
		wantBegun(t, b, c.version, load(t, small), 6)
		x := made(t, b, c.op)
		wantRun(t, b, x, 100, c.accesses)
		wantTold(t, b, x, 102, -1, writer.Outcome{Code: c.code, Old: 6})
	}
}

func TestTheExamplesOfWaiting(t *testing.T) {
	b := site(t, 0)
	section, e := b.Slots.Enter(0)
	must(t, "Enter", e)
	section.Step()
	section.Step()
	x := made(t, b, revoke())
	wantSteps(t, b, x, 0, "2+1 3 0 6 take:21@27 append:6 sync "+stores(27, revoked())+" 0=27 1+1")
	wantReady(t, b, x, false)
	wantSteps(t, b, x, 30, "4")
	wantReady(t, b, x, false)
	y := made(t, b, revoke())
	wantReady(t, b, y, true)
	wantSteps(t, b, y, 31, "2+1")
	wantReady(t, b, y, false)
	must(t, "Leave", b.Slots.Leave(0))
	wantReady(t, b, x, true)
	wantRun(t, b, x, 40, "4 free:6 3+1")
	wantTold(t, b, x, 28, 41, writer.Outcome{Version: 6, Page: 27, Size: 21, Old: 6})
}
