package store_test

import (
	"math"
	"slices"
	"strconv"
	"strings"
	"testing"

	"gatehouse/api"
	"gatehouse/store"
)

// 25.1

// house is the document's text.
const house = `
action open, read, write;
subject ann, bob trust 0.5;
subject "the night watch";
role clerk, guard;
object door1, door2, vault;
group doors, building;
member ann : clerk, guard;
inherit guard : clerk;
part door1 : doors;
within doors : building;
allow clerk on building : open, read above 0.25;
deny guard on vault : *;
except ann on door1 : read;
`

// Each bound of a configuration may be, and one beyond it may not.
func TestBounds(t *testing.T) {
	for _, c := range []struct {
		what   string
		change func(c *api.Config, n int)
		least  int
		most   int
	}{
		{"Slots", func(c *api.Config, n int) { c.Slots, c.Words = n, 65536 }, 1, 16},
		{"Sets", func(c *api.Config, n int) { c.Sets, c.Ways = n, 1 }, 0, 256},
		{"Ways", func(c *api.Config, n int) { c.Sets, c.Ways = 1, n }, 1, 8},
		{"Words", func(c *api.Config, n int) { c.Words, c.Text = n, "" }, 6 + 8, 65536},
		{"First", func(c *api.Config, n int) { c.First = n }, 1, 1<<31 - 1},
		{"Disk", func(c *api.Config, n int) { c.Disk = n }, 82, 1 << 20},
		{"Flaw", func(c *api.Config, n int) { c.Flaw = n }, 0, 6},
	} {
		for _, n := range []int{c.least, c.least + 1, c.most - 1, c.most} {
			x := config()
			c.change(&x, n)
			if s, e := store.New(x, nil); s == nil || e != api.OK {
				t.Errorf("%s %d: %v", c.what, n, e)
			}
		}
		beyond := []int{c.most + 1, -1, -c.most, math.MaxInt, math.MinInt, 1 << 32, 1<<32 + c.least, 1 << 62}
		if c.least < 8 { // else there is another refusal below it
			beyond = append(beyond, c.least-1)
		}
		for _, n := range beyond {
			x := config()
			c.change(&x, n)
			wantRefused(t, x, nil, api.ErrConfig)
		}
	}
}

// The words must be more than the fixed ones; with just one more there is an arena, into which no page fits.
func TestWordsBesideSlots(t *testing.T) {
	for slots := 1; slots <= 16; slots++ {
		c := config()
		c.Slots, c.Text = slots, ""
		for _, x := range []struct {
			words int
			want  api.Errno
		}{{0, api.ErrConfig}, {1, api.ErrConfig}, {slots, api.ErrConfig}, {3 + 2*slots, api.ErrConfig}, {4 + 2*slots, api.ErrConfig}, {5 + 2*slots, api.ErrRoom}, {4 + 2*slots + 7, api.ErrRoom}} {
			c.Words = x.words
			wantRefused(t, c, nil, x.want)
		}
		c.Words = 4 + 2*slots + 8
		s := made(t, c, nil)
		if v := s.Run().Versions[0]; v.Addr != 4+2*slots || v.Size != 8 {
			t.Errorf("%d slots: %+v", slots, v)
		}
	}
}

// Without sets the ways count for nothing.
func TestWaysWithoutSets(t *testing.T) {
	for _, ways := range []int{0, 1, 8, 9, -1, math.MaxInt, math.MinInt} {
		c := config()
		c.Ways = ways
		if r := finished(t, c, register(), check(door), check(door)); r.Events[2].Hit || r.Stats[0] != (api.Stats{}) {
			t.Errorf("Ways %d: %+v, %+v", ways, r.Events[2], r.Stats[0])
		}
		c.Sets = 1
		if ways < 1 || ways > 8 {
			wantRefused(t, c, nil, api.ErrConfig)
		}
	}
}

// A disk of no bytes may be; it only has no room for a record.
func TestNoDisk(t *testing.T) {
	c := config()
	for _, room := range []int{0, 1, 17, 81} {
		c.Disk = room
		wantRefused(t, c, nil, api.ErrFull)
	}
}

// As many tasks and operations as may be, and one more.
func TestAsManyTasksAsMayBe(t *testing.T) {
	full := make([][]api.Op, 64)
	for i := range full {
		full[i] = make([]api.Op, 256)
	}
	s := made(t, config(), full)
	if s.Done(63) || !s.Done(64) || !s.Pick(63) || s.Pick(64) {
		t.Error("the last task is not there")
	}
	for range 255 {
		s.Pick(63)
	}
	if !s.Done(63) || s.Done(62) {
		t.Error("the last task has another number of operations")
	}
	wantRefused(t, config(), append(full[:64:64], nil), api.ErrMany)
	wantRefused(t, config(), make([][]api.Op, 65), api.ErrMany)
	wantRefused(t, config(), make([][]api.Op, 1000), api.ErrMany)
	for i := range 3 {
		l := make([][]api.Op, 3)
		l[i] = make([]api.Op, 257)
		wantRefused(t, config(), l, api.ErrMany)
		l[i] = make([]api.Op, 256)
		made(t, config(), l)
	}
}

// A text that is refused: the number of its fault.
func TestTextsThatAreRefused(t *testing.T) {
	for text, want := range map[string]api.Errno{
		"?":                                api.ErrByte,
		"subject \"ann":                    api.ErrQuote,
		`subject "a\q";`:                   api.ErrEscape,
		"subject ann trust 2;":             api.ErrNumber,
		"subject ann":                      api.ErrSyntax,
		"subject ann; object door":         api.ErrSyntax,
		"member ann : clerk;":              api.ErrUnknown,
		"subject ann, ann;":                api.ErrTwice,
		"subject \"\";":                    api.ErrName,
		strings.Repeat(" ", 65537):         api.ErrLong,
		"action " + many("a", 17) + ";":    api.ErrMany,
		"subject " + many("s", 65) + ";":   api.ErrMany,
		"\xff":                             api.ErrByte,
		"subject ann; allow ann on x : *;": api.ErrUnknown,
	} {
		c := config()
		c.Text = text
		wantRefused(t, c, nil, want)
		c.Words, c.Disk = 7, 0
		wantRefused(t, c, nil, want) // ahead of what Begin refuses
		wantRefused(t, c, make([][]api.Op, 65), api.ErrMany)
	}
	c := config()
	c.Text = strings.Repeat(" ", 65536) // as long as may be; the record has none of it
	if s := made(t, c, nil); len(s.Run().Disk) != 17 {
		t.Errorf("the disk has %q", s.Run().Disk)
	}
}

// many are so many names.
func many(name string, n int) string {
	var l []string
	for i := range n {
		l = append(l, name+strconv.Itoa(i))
	}
	return strings.Join(l, ", ")
}

// Of several refusals the first one is told.
func TestTheOrderOfRefusals(t *testing.T) {
	for i, bad := range []func(c *api.Config){
		func(c *api.Config) { c.Slots = 0 },
		func(c *api.Config) { c.Sets = -1 },
		func(c *api.Config) { c.Sets, c.Ways = 1, 0 },
		func(c *api.Config) { c.Words = 6 },
		func(c *api.Config) { c.Words = 65537 },
		func(c *api.Config) { c.First = 0 },
		func(c *api.Config) { c.Disk = -1 },
		func(c *api.Config) { c.Flaw = 7 },
	} {
		c := config()
		c.Text, c.Disk = "?", 0
		bad(&c)
		wantRefused(t, c, make([][]api.Op, 65), api.ErrConfig)
		if t.Failed() {
			t.Fatalf("configuration %d", i)
		}
	}
	c := config()
	c.Text, c.Words, c.Disk = "?", 20, 0
	wantRefused(t, c, [][]api.Op{make([]api.Op, 257)}, api.ErrMany)
	wantRefused(t, c, one(check(door)), api.ErrByte)
	c.Text = small
	wantRefused(t, c, one(check(door)), api.ErrRoom)
	c.Words = 27
	wantRefused(t, c, one(check(door)), api.ErrFull)
	c.Disk = 82
	made(t, c, one(check(door)))
}

// What a store is before its first moment: of all texts, with just enough room.
func TestTheStoreAsItIsMade(t *testing.T) {
	for _, text := range []string{"", small, house, "action open;", "object ann; subject ann; action ann; allow ann on ann : *;", "subject " + many("s", 64) + "; object " + many("o", 64) + ";"} {
		for flaw := range 7 {
			for i, first := range []int{1, 2, 77, 1<<31 - 2, 1<<31 - 1} {
				slots := 1 + 3*i
				at := 4 + 2*slots
				record := recordOf(t, first, text)
				c := api.Config{Text: text, Slots: slots, Sets: i, Ways: 1, Words: at + sizeOf(t, text), First: first, Disk: len(record), Flaw: flaw}
				s := made(t, c, [][]api.Op{nil, {}})
				r := s.Run()
				wantVersions(t, r, []api.Version{{Number: first, Addr: at, Size: sizeOf(t, text), Point: -1, Gone: -1}}, text)
				if len(r.Events)+len(r.Tasks)+len(r.Trace)+len(r.Live) != 0 || r.Code != api.OK {
					t.Errorf("%q: moments have passed: %+v", text, r)
				}
				if !slices.Equal(r.Stats, make([]api.Stats, slots)) || !slices.Equal(r.Symbols, symbolsOf(t, text)) {
					t.Errorf("%q: Stats %v, Symbols %q", text, r.Stats, r.Symbols)
				}
				if r.Disk != record || r.Synced != len(record) {
					t.Errorf("%q: the disk has %q, %d of it safe", text, r.Disk, r.Synced)
				}
				c.Words--
				wantRefused(t, c, nil, api.ErrRoom)
				c.Words++
				c.Disk--
				wantRefused(t, c, nil, api.ErrFull)
			}
		}
	}
}

// The first words: a register, a check and a write show the epoch, the lock, the slots, the owners, the current word and the arena.
func TestTheMemoryAsItIsMade(t *testing.T) {
	for _, slots := range []int{1, 2, 5, 16} {
		c := config()
		c.Slots = slots
		r := finished(t, c, register(), version(), revoke(door))
		at := 4 + 2*slots
		wantTrace(t, r, 0, "swap "+strconv.Itoa(4+slots)+" 1, load 1 1, store 4 1, load 0 "+strconv.Itoa(at)+", load "+strconv.Itoa(at)+" 5, store 4 0, add 2 1, load 3 0, load 0 "+strconv.Itoa(at)+", load "+strconv.Itoa(at)+" 5, take "+strconv.Itoa(at+21)+" 21")
		from := len(r.Trace) - slots - 3
		text := "add 1 1"
		for slot := range slots {
			text += ", load " + strconv.Itoa(4+slot) + " 0"
		}
		wantTrace(t, r, from, text+", free "+strconv.Itoa(at)+", add 3 1")
		for i, x := range []int{0, 6, 7, from, from + slots + 2} { // what stood there ahead: an owner, the ticket, the epoch, the lock
			if old := []int{0, 0, 0, 1, 0}[i]; r.Trace[x].Old != old && x != 7 {
				t.Errorf("%d slots: %+v", slots, r.Trace[x])
			}
		}
	}
}

// The names of checks get their numbers at once, in the order of tasks and operations, whatever they are; those of other operations do not.
func TestNamesOfChecks(t *testing.T) {
	c := config()
	list := [][]api.Op{
		{register(), check(api.Triple{Subject: "eve", Object: "door", Action: "open"}), check(api.Triple{Subject: "ann", Object: "gate", Action: "eve"})},
		nil,
		{revoke(api.Triple{Subject: "x", Object: "y", Action: "z"}), update("subject zoe;"), apply(newSubject("tim")), {Kind: api.OpVersion, Triple: api.Triple{Subject: "u"}}, {Kind: 9, Triple: api.Triple{Subject: "v"}}, {Kind: api.OpRegister, Triple: api.Triple{Action: "w"}}},
		{check(api.Triple{}), check(api.Triple{Subject: "\xff", Object: strings.Repeat("n", 1000), Action: "gate"}), check(door)},
	}
	s := made(t, c, list)
	want := []string{"open", "ann", "door", "eve", "gate", "", "\xff", strings.Repeat("n", 1000)}
	if got := s.Run().Symbols; !slices.Equal(got, want) {
		t.Errorf("the symbols are %q, want %q", got, want)
	}
	toEnd(t, s, 2)
	want = append(want, "zoe", "tim")
	if got := s.Run().Symbols; !slices.Equal(got, want) {
		t.Errorf("the symbols are %q, want %q", got, want)
	}
	toEnd(t, s, 0)
	toEnd(t, s, 3)
	if got := s.Run().Symbols; !slices.Equal(got, want) {
		t.Errorf("the symbols are %q, want %q", got, want)
	}
}

// So a name that comes first in a check has a lower number than it would have, and the pages go by it.
func TestNumbersInPages(t *testing.T) {
	c := config()
	c.Text = ""
	c.Words = 200
	s := made(t, c, [][]api.Op{{update(small), register(), check(door)}, {check(door)}})
	if got := s.Run().Symbols; !slices.Equal(got, []string{"ann", "door", "open"}) {
		t.Errorf("the symbols are %q", got)
	}
	toEnd(t, s, 0)
	if e := s.Run().Events[2]; !e.Allowed || e.Version != 6 {
		t.Errorf("%+v", e)
	}
	if got := s.Run().Symbols; !slices.Equal(got, []string{"ann", "door", "open"}) {
		t.Errorf("the symbols are %q", got)
	}
}

// Two stores share nothing.
func TestTwoStores(t *testing.T) {
	x, y := made(t, config(), tasks()), made(t, config(), tasks())
	was := y.Run()
	toEnd(t, x, 0)
	toEnd(t, x, 1)
	wantSame(t, y.Run(), was)
	toEnd(t, y, 0)
	toEnd(t, y, 1)
	wantSame(t, y.Run(), x.Run())
}
