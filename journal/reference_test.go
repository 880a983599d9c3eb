package journal_test

import (
	"math/big"
	"slices"
	"strings"
	"testing"

	"gatehouse/api"
	"gatehouse/disk"
	"gatehouse/journal"
)

// A second reckoning: a sum is what a division of polynomials leaves over; a record is found by trying each text that may stand there; a journal is a list of entries, each with a mark of its own that says whether it is safe.

// slowSum divides the bits of some bytes, lowest first in each, with 32 ones laid over the first of them and 32 zeros behind, by the polynomial of Ethernet frames.
func slowSum(bytes string) uint32 {
	size := 8 * len(bytes)
	rest := new(big.Int)
	for n := range size {
		if bytes[n/8]>>(n%8)&1 == 1 {
			rest.SetBit(rest, size+31-n, 1)
		}
	}
	turn := func(from int) {
		for n := range 32 {
			rest.SetBit(rest, from+n, rest.Bit(from+n)^1)
		}
	}
	turn(size)
	by := big.NewInt(0x104C11DB7)
	for n := size + 31; n >= 32; n-- {
		if rest.Bit(n) == 1 {
			rest.Xor(rest, new(big.Int).Lsh(by, uint(n-32)))
		}
	}
	turn(0)
	sum := uint32(0)
	for n := range 32 {
		sum = sum<<1 | uint32(rest.Bit(n))
	}
	return sum
}

// slowNumber is a number of four bytes.
func slowNumber(n int) string {
	var four []byte
	for range 4 {
		four = append(four, byte(n%256))
		n /= 256
	}
	return string(four)
}

// slowFrame is an entry's record, whether the entry is right or not.
func slowFrame(e api.Entry) string {
	head := "\xa5" + slowNumber(e.Version) + slowNumber(len(e.Text))
	return head + slowNumber(int(slowSum(head))) + e.Text + slowNumber(int(slowSum(e.Text)))
}

// slowRefusal is what is wrong with an entry.
func slowRefusal(e api.Entry) api.Errno {
	switch {
	case e.Version <= 0 || e.Version >= 1<<31:
		return api.ErrRange
	case len(e.Text) >= 65537:
		return api.ErrLong
	}
	return api.OK
}

// slowRead tries each text, at each place where a record may begin. The bytes are few: no text is too long.
func slowRead(bytes string) ([]api.Entry, int) {
	if len(bytes) >= 17 {
		version := int(bytes[1]) + 256*int(bytes[2]) + 65536*int(bytes[3]) + 16777216*int(bytes[4])
		for length := range len(bytes) - 16 {
			e := at(version, bytes[13:13+length])
			if slowRefusal(e) == api.OK && bytes[:17+length] == slowFrame(e) {
				entries, read := slowRead(bytes[17+length:])
				return append([]api.Entry{e}, entries...), 17 + length + read
			}
		}
	}
	return nil, 0
}

func TestTheSumByDivision(t *testing.T) {
	if slowSum("123456789") != 0xCBF43926 || slowSum("") != 0 {
		t.Fatalf("the second reckoning is wrong: %#x, %#x", slowSum("123456789"), slowSum(""))
	}
	d := dice(2270)
	for n := range 400 {
		e := at(d.version(), d.text(n%70))
		wantFrame(t, e, slowFrame(e))
	}
}

// Records that were spoiled by the dice: some bytes turned, taken out, put in, records swapped with parts of others.
func TestReadOfSpoiledRecords(t *testing.T) {
	d := dice(2271)
	var counts [4]int
	for row := range 3000 {
		bytes := laid(t, d.entries(d.throw(4))...)
		for range d.throw(3) {
			spot := d.throw(len(bytes) + 1)
			switch d.throw(5) {
			case 0:
				bytes = bytes[:spot]
			case 1:
				bytes = bytes[:spot] + d.text(1) + bytes[min(spot+1, len(bytes)):]
			case 2:
				bytes = bytes[:spot] + bytes[min(spot+d.throw(20), len(bytes)):]
			case 3:
				bytes = bytes[:spot] + d.text(d.throw(3)) + bytes[spot:]
			case 4:
				bytes += forged(byte(0xA4+d.throw(2)), uint32(d.throw(2))<<31+uint32(d.throw(2)), uint32(d.throw(3)), d.text(d.throw(3)))
			}
		}
		want, read := slowRead(bytes)
		wantRead(t, bytes, read, want...)
		if read < len(bytes) {
			counts[min(len(want), 3)]++
		}
		if t.Failed() {
			t.Fatalf("row %d", row)
		}
	}
	if slices.Min(counts[:]) < 50 {
		t.Errorf("%v times none, one, two, more ahead of something that is no record: too few to tell", counts)
	}
}

type slowEntry struct {
	entry api.Entry
	safe  bool
}

// both are a journal on its disk, and the second reckoning beside it.
type both struct {
	disk    *disk.Disk
	journal *journal.Journal
	room    int
	list    []slowEntry
}

func bothOf(t *testing.T, room int) *both {
	t.Helper()
	d := blank(t, room)
	return &both{disk: d, journal: opened(t, d), room: room}
}

func (b *both) size() int {
	n := 0
	for _, s := range b.list {
		n += 17 + len(s.entry.Text)
	}
	return n
}

// entries are all of them, or those alone that are safe.
func (b *both) entries(safe bool) []api.Entry {
	var list []api.Entry
	for _, s := range b.list {
		if s.safe || !safe {
			list = append(list, s.entry)
		}
	}
	return list
}

func (b *both) append(t *testing.T, e api.Entry) api.Errno {
	t.Helper()
	want := slowRefusal(e)
	if want == api.OK && b.size()+17+len(e.Text) > b.room {
		want = api.ErrFull
	}
	wantAppend(t, b.journal, e, want)
	if want == api.OK {
		b.list = append(b.list, slowEntry{entry: e})
	}
	return want
}

func (b *both) sync(t *testing.T) {
	t.Helper()
	wantSync(t, b.journal)
	for n := range b.list {
		b.list[n].safe = true
	}
}

// again opens the disk again; the journal that was is used no more.
func (b *both) again(t *testing.T) {
	t.Helper()
	b.journal = opened(t, b.disk, b.entries(false)...)
}

// cut is the journal of what a power cut leaves; if it cut through a record, what is left is torn, and taken up to that record. It tells whether it was torn.
func (b *both) cut(t *testing.T, keep int) (*both, bool) {
	t.Helper()
	c := &both{room: b.room}
	loose := keep
	for _, s := range b.list {
		if !s.safe {
			loose -= 17 + len(s.entry.Text)
		}
		if loose < 0 && !s.safe {
			break
		}
		c.list = append(c.list, slowEntry{s.entry, true})
	}
	left := b.disk.Cut(keep)
	torn := len(left) > c.size()
	if torn {
		wantNoJournal(t, holding(t, left, b.room), api.ErrTorn)
	}
	_, read := journal.Read(left)
	c.disk = holding(t, left[:read], b.room)
	c.again(t)
	return c, torn
}

func (b *both) look(t *testing.T) {
	t.Helper()
	all, safe := "", ""
	for _, e := range b.entries(false) {
		all += slowFrame(e)
	}
	for _, e := range b.entries(true) {
		safe += slowFrame(e)
	}
	wantOn(t, b.disk, safe, strings.TrimPrefix(all, safe))
	if len(b.list) == 0 {
		wantNoLast(t, b.journal)
		return
	}
	wantLast(t, b.journal, b.list[len(b.list)-1].entry)
}

// each goes over all rows of so many calls, each of so many kinds.
func each(calls, kinds int, do func([]int)) {
	row := make([]int, calls)
	for {
		do(row)
		n := 0
		for n < calls && row[n] == kinds-1 {
			row[n] = 0
			n++
		}
		if n == calls {
			return
		}
		row[n]++
	}
}

// All short rows: entries with texts of 0 to 2 bytes, wrong ones, Syncs, journals opened again, cuts through and between, in rooms in which some is refused.
func TestAllShortRows(t *testing.T) {
	for _, room := range []int{0, 17, 35, 54} {
		each(4, 8, func(calls []int) {
			b := bothOf(t, room)
			for n, call := range calls {
				switch call {
				case 0, 1, 2:
					b.append(t, at(n+1, "ab"[:call]))
				case 3:
					b.append(t, at(0, "a"))
				case 4:
					b.sync(t)
				case 5:
					b.again(t)
				case 6:
					b, _ = b.cut(t, 0)
				case 7:
					b, _ = b.cut(t, 18)
				}
				b.look(t)
			}
			if t.Failed() {
				t.Fatalf("room %d, calls %v", room, calls)
			}
		})
	}
}

// wrong is an entry with something wrong about it.
func (d *dice) wrong() api.Entry {
	list := wrongVersions()
	version := list[d.throw(len(list))]
	switch d.throw(3) {
	case 0:
		return at(version, d.text(d.throw(5)))
	case 1:
		return at(d.version(), strings.Repeat("a", api.MaxText+1))
	}
	return at(version, strings.Repeat("a", api.MaxText+1))
}

// Long rows by the dice, on some journals side by side, each over a disk of its own, of which now and then one is opened again, or lost, and taken up with what a cut left of it or of another one.
func TestLongRows(t *testing.T) {
	d := dice(2272)
	var taken, full, refused, again, torn, between int
	for row := range 80 {
		room := []int{0, 20, 60, 200, 500, 3000}[row%6]
		journals := make([]*both, 1+d.throw(4))
		for n := range journals {
			journals[n] = bothOf(t, room)
		}
		for call := range 60 {
			b := journals[d.throw(len(journals))]
			switch d.throw(12) {
			case 0:
				b.sync(t)
			case 1:
				b.again(t)
				again++
			case 2:
				c, tore := b.cut(t, d.throw(60)-10)
				journals[d.throw(len(journals))] = c
				if tore {
					torn++
				} else {
					between++
				}
			case 3:
				b.append(t, d.wrong())
				refused++
			default:
				if b.append(t, at(d.version(), d.text(d.throw(2+room/20)))) == api.OK {
					taken++
				} else {
					full++
				}
			}
			for _, b := range journals {
				b.look(t)
			}
			if t.Failed() {
				t.Fatalf("row %d: %d journals of room %d, behind %d calls", row, len(journals), room, call)
			}
		}
	}
	if taken < 500 || full < 500 || refused < 200 || again < 200 || torn < 50 || between < 50 {
		t.Errorf("%d taken, %d too many for the disk, %d refused, %d opened again, %d torn, %d cut between records: too few to tell", taken, full, refused, again, torn, between)
	}
}

// What is answered hangs on what the journal was told alone: the same row gives the same again.
func TestTheSameRowAgain(t *testing.T) {
	row := func() []string {
		d := dice(4)
		on := blank(t, 2000)
		j := opened(t, on)
		var list []string
		for range 200 {
			code := j.Append(d.entries(1)[0])
			if d.throw(4) == 0 {
				j.Sync()
			}
			last, there := j.Last()
			entries, _ := journal.Read(on.Cut(d.throw(40)))
			list = append(list, code.Error(), told(last), on.Bytes(), toldAll(entries))
			if !there {
				list = append(list, "none")
			}
		}
		return list
	}
	want := row()
	for range 5 {
		if !slices.Equal(row(), want) {
			t.Fatal("the same row tells something else")
		}
	}
}
