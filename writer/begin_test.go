package writer_test

import (
	"math"
	"slices"
	"strconv"
	"strings"
	"testing"

	"gatehouse/api"
	"gatehouse/names"
	"gatehouse/writer"
)

// 24.1

// house is the document's text.
const house = `
action open, read, write;
subject ann, bob trust 0.5;
subject "the night watch";
role clerk, guard;
object door1, door2, vault;
group doors, building;
member ann : clerk, guard;
inherit guard : clerk;
part door1 : doors;
within doors : building;
allow clerk on building : open, read above 0.25;
deny guard on vault : *;
except ann on door1 : read;
`

// texts are of policies of pages of many sizes, some of which share names.
func texts() []string {
	var many, grid strings.Builder
	for i := range 64 {
		n := strconv.Itoa(i)
		many.WriteString("subject s" + n + "; object o" + n + ";\n")
	}
	grid.WriteString("action a, b, c;")
	for i := range 12 {
		n := strconv.Itoa(i)
		grid.WriteString("subject s" + n + "; object o" + n + "; allow s" + n + " on o" + n + " : a, c;\n")
	}
	return []string{"", "action open;", "subject ann;", small, house, "object ann; subject ann; action ann; allow ann on ann : *;", many.String(), grid.String()}
}

// wantTrace asks for the entries behind so many.
func wantTrace(t *testing.T, b *bench, from int, want []api.Access) {
	t.Helper()
	if got := b.Memory.Trace()[from:]; !slices.Equal(got, want) {
		t.Errorf("the trace has %v, want %v", got, want)
	}
}

// laying is what Begin leaves in the trace where nothing is refused.
func laying(version, at, current, old int, words []int) []api.Access {
	l := []api.Access{{Kind: api.AccessTake, Addr: at, Value: len(words), Good: true}, {Kind: api.AccessAppend, Value: version, Good: true}, {Kind: api.AccessSync, Good: true}}
	for i, word := range words {
		l = append(l, api.Access{Kind: api.AccessStore, Addr: at + i, Value: word, Good: true})
	}
	return append(l, api.Access{Kind: api.AccessStore, Addr: current, Value: at, Old: old, Good: true})
}

// Begin is the same with each flaw, and whatever the version; all that it has done is seen.
func TestBegin(t *testing.T) {
	for _, text := range texts() {
		p := load(t, text)
		record := api.Entry{Text: textOf(t, p)}
		for i, version := range []int{1, 2, 5, 1 << 16, api.MaxVersion - 1, api.MaxVersion} {
			record.Version = version
			for _, flaw := range flaws() {
				slots := 1 + i
				b := benchOf(t, 5000, slots, 20000, flaw)
				words := pageOf(t, b, version, p)
				at := slotsAt + 2*slots
				wantBegun(t, b, version, p, at)
				wantTrace(t, b, 1, laying(version, at, 0, 0, words))
				wantSafe(t, b, record)
				wantPolicy(t, b, at, p)
				if len(b.Book) != 1 {
					t.Errorf("the book has %d pages", len(b.Book))
				}
				wantBlocks(t, b, api.Block{Addr: at, Size: len(words)}, api.Block{Addr: at + len(words), Size: 5000 - at - len(words), Free: true})
				if all := allWords(t, b.Memory); !slices.Equal(all[at:at+len(words)], words) || all[0] != at || all[epochAt] != 1 || slices.Max(all[2:at]) != 0 {
					t.Errorf("the words are %v", all[:at+len(words)])
				}
				if last, _ := b.Journal.Last(); last != record {
					t.Errorf("the journal's last entry is %+v, want %+v", last, record)
				}
				if t.Failed() {
					t.Fatalf("%q, version %d, flaw %d", text, version, flaw)
				}
			}
		}
	}
}

func wantBlocks(t *testing.T, b *bench, want ...api.Block) {
	t.Helper()
	if got := b.Arena.Blocks(); !slices.Equal(got, want) {
		t.Errorf("the pieces are %v, want %v", got, want)
	}
}

// The names get their numbers: the actions, the subjects, the objects; those that have one keep it.
func TestBeginGivesNumbers(t *testing.T) {
	b := benchOf(t, 400, 1, 2000, 0)
	for _, name := range []string{"vault", "zoe", "read"} {
		b.Index.Of(name)
	}
	wantBegun(t, b, 1, load(t, house), 6)
	if want := []string{"vault", "zoe", "read", "open", "write", "ann", "bob", "the night watch", "door1", "door2"}; !slices.Equal(b.symbols(), want) {
		t.Errorf("the symbols are %v, want %v", b.symbols(), want)
	}
}

// Refused ahead of the piece: nothing is done at all.
func TestBeginOfAVersionThatMayNotBe(t *testing.T) {
	for _, version := range []int{0, -1, -5, api.MaxVersion + 1, 1 << 32, 1<<32 + 5, math.MaxInt, math.MinInt, poison} {
		for _, words := range []int{100, 7} {
			for _, room := range []int{500, 0} {
				b := benchOf(t, words, 1, room, 0)
				b.Index.Of("eve")
				was := stateOf(t, b)
				wantNotBegun(t, b, version, load(t, small), api.ErrRange)
				wantState(t, b, was)
			}
		}
	}
}

// fullIndex has no number left; it knows these names.
func fullIndex(known ...string) *names.Index[string] {
	x := names.NewIndex[string]()
	for _, name := range known {
		x.Of(name)
	}
	for n := x.Len(); n < api.MaxSymbols; n++ {
		x.Of("n" + strconv.Itoa(n))
	}
	return x
}

func TestBeginWithAFullIndex(t *testing.T) {
	full := fullIndex("ann", "open")
	for _, words := range []int{100, 7} {
		b := benchOf(t, words, 1, 500, 0)
		b.Index = full
		wantNotBegun(t, b, 5, load(t, small), api.ErrMany) // door has no number
		if len(b.Memory.Trace()) != 1 || b.Arena.Live() != 0 || b.disk.Bytes() != "" || len(b.Book) != 0 || full.Len() != api.MaxSymbols {
			t.Errorf("%d entries, %d pieces, %d bytes", len(b.Memory.Trace()), b.Arena.Live(), len(b.disk.Bytes()))
		}
		wantNotBegun(t, b, 0, load(t, small), api.ErrRange) // the version comes first
	}
	b := benchOf(t, 100, 1, 500, 0)
	b.Index = full
	wantBegun(t, b, 5, load(t, "subject ann; action open;"), 6)
}

// Refused by the arena: the take is noted, the names have their numbers, nothing else is done.
func TestBeginWithoutRoom(t *testing.T) {
	for _, words := range []int{7, 8, 20, 26} {
		for _, room := range []int{500, 81} { // the disk's room is not asked
			b := benchOf(t, words, 1, room, 0)
			was := stateOf(t, b)
			wantNotBegun(t, b, 5, load(t, small), api.ErrRoom)
			wantTrace(t, b, 1, []api.Access{{Kind: api.AccessTake, Value: 21}})
			was.trace, was.symbols = 2, []string{"open", "ann", "door"}
			wantState(t, b, was)
		}
	}
	b := benchOf(t, 27, 1, 82, 0)
	wantBegun(t, b, 5, load(t, small), 6)
	wantBlocks(t, b, api.Block{Addr: 6, Size: 21})

	b = benchOf(t, 100, 1, 500, 0) // enough words, but not behind one another
	for _, size := range []int{20, 1, 20, 1} {
		b.Arena.Take(size)
	}
	b.Arena.Take(b.Memory.Len() - 6 - 42)
	must(t, "Give", b.Arena.Give(6))
	must(t, "Give", b.Arena.Give(27))
	was := stateOf(t, b)
	wantNotBegun(t, b, 5, load(t, small), api.ErrRoom)
	was.trace, was.symbols = was.trace+1, []string{"open", "ann", "door"}
	wantState(t, b, was)
}

// Refused by the journal: the piece is given back, which is noted too, and its words are poisoned; nothing else is left.
func TestBeginWithoutBytes(t *testing.T) {
	for _, room := range []int{0, 1, 17, 65, 81} {
		b := benchOf(t, 100, 1, room, 0)
		was := stateOf(t, b)
		wantNotBegun(t, b, 5, load(t, small), api.ErrFull)
		wantTrace(t, b, 1, []api.Access{{Kind: api.AccessTake, Addr: 6, Value: 21, Good: true}, {Kind: api.AccessAppend, Value: 5}, {Kind: api.AccessFree, Addr: 6, Good: true}})
		was.trace, was.symbols = 4, []string{"open", "ann", "door"}
		copy(was.words[6:], slices.Repeat([]int{poison}, 21))
		wantState(t, b, was)
		if last, there := b.Journal.Last(); there {
			t.Errorf("the journal has %+v", last)
		}
	}
	b := benchOf(t, 100, 1, 82, 0)
	wantBegun(t, b, 5, load(t, small), 6)
}

// What was refused may be tried again, and then goes well: with what was given back.
func TestBeginAgain(t *testing.T) {
	b := benchOf(t, 27, 1, 82, 0)
	must(t, "Append", b.Journal.Append(api.Entry{Version: 1}))
	wantNotBegun(t, b, 5, load(t, small), api.ErrFull)
	wantNotBegun(t, b, 5, load(t, house), api.ErrRoom)
	wantBegun(t, b, 6, load(t, ""), 6)
	if want := []int{6, 2, 0, 0, 0, 0, 0, 0}; !slices.Equal(allWords(t, b.Memory)[6:14], want) {
		t.Errorf("the page is %v, want %v", allWords(t, b.Memory)[6:14], want)
	}
}

// A page is laid wherever the arena has a piece, beside those that are there; they stay.
func TestBeginBesideOthers(t *testing.T) {
	b := site(t, 0)
	bytes, words := b.disk.Bytes(), allWords(t, b.Memory)
	wantBegun(t, b, 9, load(t, "subject eve;"), 27)
	wantTrace(t, b, 1+25, laying(9, 27, 0, 6, []int{9, 2, 1, 0, 0, 0, 17, 1}))
	wantPolicy(t, b, 6, load(t, small))
	wantPolicy(t, b, 27, load(t, "subject eve;"))
	copy(words[27:], []int{9, 2, 1, 0, 0, 0, 17, 1})
	words[0] = 27
	if !slices.Equal(allWords(t, b.Memory), words) || !strings.HasPrefix(b.disk.Bytes(), bytes) || b.disk.Safe() != len(b.disk.Bytes()) {
		t.Errorf("the words are %v", allWords(t, b.Memory))
	}
}

// The current word is any; where it cannot be written that is traced, and Begin goes on.
func TestBeginWithOtherCurrentWords(t *testing.T) {
	for _, current := range []int{0, 1, 3, 5, 20, 50, 99} {
		b := benchOf(t, 100, 1, 500, 0)
		b.Current = current
		old := 0
		if current == epochAt {
			old = 1
		}
		words := pageOf(t, b, 5, load(t, small))
		if current > 6 && current < 27 { // a word of the page itself
			old = words[current-6]
		}
		wantBegun(t, b, 5, load(t, small), 6)
		wantTrace(t, b, 1, laying(5, 6, current, old, words))
		if word, _ := wordAt(b.Memory, current); word != 6 {
			t.Errorf("the word %d is %d", current, word)
		}
	}
	for _, current := range []int{-1, 100, 1 << 32, math.MaxInt, math.MinInt, 60} {
		b := benchOf(t, 100, 1, 500, 0)
		b.Memory.Poison(60, 1)
		b.Current = current
		wantBegun(t, b, 5, load(t, small), 6)
		want := laying(5, 6, current, 0, pageOf(t, b, 5, load(t, small)))
		last := &want[len(want)-1]
		last.Good = false
		if current == 60 {
			last.Old = poison
		}
		wantTrace(t, b, 1, want)
		wantPolicy(t, b, 6, load(t, small))
		if b.Memory.Bad() != 1 {
			t.Errorf("%d accesses were refused", b.Memory.Bad())
		}
	}
}

// lacking are sites of which a part is not there.
func lacking(t *testing.T) []*writer.Site {
	t.Helper()
	l := []*writer.Site{nil, {}}
	for _, change := range []func(s *writer.Site){
		func(s *writer.Site) { s.Memory = nil },
		func(s *writer.Site) { s.Lock = nil },
		func(s *writer.Site) { s.Slots = nil },
		func(s *writer.Site) { s.Arena = nil },
		func(s *writer.Site) { s.Journal = nil },
		func(s *writer.Site) { s.Index = nil },
	} {
		b := benchOf(t, 100, 1, 500, 0)
		change(b.Site)
		l = append(l, b.Site)
	}
	return l
}

// Where a part is not there nothing is done; no call panics.
func TestASiteWithoutAPart(t *testing.T) {
	for i, s := range lacking(t) {
		if at, e := writer.Begin(s, 5, load(t, small)); at != 0 || e != api.ErrNil {
			t.Errorf("site %d: Begin = %d, %v", i, at, e)
		}
		for kind := int8(-1); kind < 9; kind++ {
			if x := writer.New(s, api.Op{Kind: kind, Text: small, Triple: door}); x != nil {
				t.Errorf("site %d: there is a machine of the kind %d", i, kind)
			}
		}
		if s == nil {
			continue
		}
		if len(s.Book) != 0 || s.Memory != nil && len(s.Memory.Trace()) != 1 || s.Arena != nil && s.Arena.Live() != 0 || s.Index != nil && s.Index.Len() != 0 {
			t.Errorf("site %d: something was done", i)
		}
	}
}

// A nil book is one without pages (DOC.md, R4).
func TestANilBook(t *testing.T) {
	b := benchOf(t, 100, 1, 500, 0)
	b.Book = nil
	wantBegun(t, b, 5, load(t, small), 6)
	wantPolicy(t, b, 6, load(t, small))

	b = site(t, 0)
	b.Book = nil
	x := made(t, b, update("subject ann;"))
	toEnd(t, x)
	wantPolicy(t, b, 27, load(t, "subject ann;"))
	if len(b.Book) != 1 {
		t.Errorf("the book has %d pages", len(b.Book))
	}
}

// Of a policy that is not right anything may come, but no panic.
func TestBeginOfPoliciesThatAreNotRight(t *testing.T) {
	many := make([]string, 70)
	for _, p := range []api.Policy{
		{Actions: []string{""}}, {Actions: []string{"a", "a"}}, {Actions: many}, {Subjects: []api.Subject{{Name: "\xff", Trust: -1}}},
		{Objects: many}, {Groups: many}, {Rules: []api.Rule{{Who: "x", What: "y", Cond: 9}}}, {Excepts: []api.Triple{{}}}, {Members: []api.Pair{{}}},
	} {
		b := benchOf(t, 100, 1, 500, 0)
		writer.Begin(b.Site, 5, p)
	}
}
