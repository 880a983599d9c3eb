package journal_test

import (
	"math"
	"slices"
	"strings"
	"testing"

	"gatehouse/api"
	"gatehouse/disk"
	"gatehouse/journal"
)

// at is an entry.
func at(version int, text string) api.Entry { return api.Entry{Version: version, Text: text} }

// framed is the record of a right entry.
func framed(t *testing.T, e api.Entry) string {
	t.Helper()
	record, code := journal.Frame(e)
	if code != api.OK {
		t.Fatalf("Frame(%s) = %v", told(e), code)
	}
	return record
}

// laid are the records of right entries, one behind the other.
func laid(t *testing.T, entries ...api.Entry) string {
	t.Helper()
	var all strings.Builder
	for _, e := range entries {
		all.WriteString(framed(t, e))
	}
	return all.String()
}

// blank is a disk without bytes.
func blank(t *testing.T, room int) *disk.Disk {
	t.Helper()
	d, code := disk.New(room)
	if code != api.OK {
		t.Fatalf("a disk of room %d: %v", room, code)
	}
	return d
}

// holding is a disk with bytes, all of them safe.
func holding(t *testing.T, bytes string, room int) *disk.Disk {
	t.Helper()
	d, code := disk.Open(bytes, room)
	if code != api.OK {
		t.Fatalf("a disk with %d bytes, room %d: %v", len(bytes), room, code)
	}
	return d
}

// opened is the journal of a disk on which just these entries stand.
func opened(t *testing.T, d *disk.Disk, want ...api.Entry) *journal.Journal {
	t.Helper()
	j, entries, code := journal.Open(d)
	if code != api.OK || j == nil {
		t.Fatalf("Open of a disk with %d bytes = %v, %v", len(d.Bytes()), j != nil, code)
	}
	if !slices.Equal(entries, want) {
		t.Errorf("Open tells %s, want %s", toldAll(entries), toldAll(want))
	}
	return j
}

func wantFrame(t *testing.T, e api.Entry, want string) {
	t.Helper()
	if got, code := journal.Frame(e); got != want || code != api.OK {
		t.Errorf("Frame(%s) = %s, %v, want %s", told(e), short(got), code, short(want))
	}
}

func wantNoFrame(t *testing.T, e api.Entry, want api.Errno) {
	t.Helper()
	if got, code := journal.Frame(e); got != "" || code != want {
		t.Errorf("Frame(%s) = %s, %v, want %v", told(e), short(got), code, want)
	}
}

// wantRead asks for entries, whose records are so many bytes.
func wantRead(t *testing.T, bytes string, read int, want ...api.Entry) {
	t.Helper()
	if got, n := journal.Read(bytes); !slices.Equal(got, want) || n != read {
		t.Errorf("Read(%s) = %s, %d, want %s, %d", short(bytes), toldAll(got), n, toldAll(want), read)
	}
}

func wantNoJournal(t *testing.T, d *disk.Disk, want api.Errno) {
	t.Helper()
	if j, entries, code := journal.Open(d); j != nil || len(entries) > 0 || code != want {
		t.Errorf("Open = %v, %s, %v, want %v", j != nil, toldAll(entries), code, want)
	}
}

func wantAppend(t *testing.T, j *journal.Journal, e api.Entry, want api.Errno) {
	t.Helper()
	if code := j.Append(e); code != want {
		t.Errorf("Append(%s) = %v, want %v", told(e), code, want)
	}
}

func wantSync(t *testing.T, j *journal.Journal) {
	t.Helper()
	if code := j.Sync(); code != api.OK {
		t.Errorf("Sync() = %v", code)
	}
}

func wantLast(t *testing.T, j *journal.Journal, want api.Entry) {
	t.Helper()
	if got, there := j.Last(); got != want || !there {
		t.Errorf("Last() = %s, %v, want %s, true", told(got), there, told(want))
	}
}

func wantNoLast(t *testing.T, j *journal.Journal) {
	t.Helper()
	if got, there := j.Last(); got != at(0, "") || there {
		t.Errorf("Last() = %s, %v, want none", told(got), there)
	}
}

// wantOn asks for all that is on a disk: the bytes that are safe, and those behind them.
func wantOn(t *testing.T, d *disk.Disk, safe, behind string) {
	t.Helper()
	if got := d.Bytes(); got != safe+behind {
		t.Errorf("on the disk: %s, want %s", short(got), short(safe+behind))
	}
	if got := d.Safe(); got != len(safe) {
		t.Errorf("%d bytes are safe, want %d", got, len(safe))
	}
}

// dice throws numbers, always the same ones.
type dice uint64

func (d *dice) throw(n int) int {
	*d = *d*6364136223846793005 + 1442695040888963407
	return int(uint64(*d>>33) % uint64(n))
}

// text is so many bytes, of all kinds.
func (d *dice) text(n int) string {
	b := make([]byte, n)
	for i := range b {
		b[i] = byte(d.throw(256))
	}
	return string(b)
}

// version is one that may be, some of them at the edges of a byte.
func (d *dice) version() int {
	rights := rightVersions()
	if d.throw(2) == 0 {
		return rights[d.throw(len(rights))]
	}
	return 1 + d.throw(api.MaxVersion)
}

// entries are so many right entries with short texts.
func (d *dice) entries(n int) []api.Entry {
	list := make([]api.Entry, n)
	for i := range list {
		list[i] = at(d.version(), d.text(d.throw(12)))
	}
	return list
}

func rightVersions() []int {
	return []int{1, 2, 127, 128, 255, 256, 257, 258, 0xA5, 65535, 65536, 65537, 1<<24 - 1, 1 << 24, 1<<24 + 1, 1 << 30, api.MaxVersion - 1, api.MaxVersion}
}

// wrongVersions are no versions; cut off to four bytes, or to 31 bits, some would be one.
func wrongVersions() []int {
	return []int{math.MinInt, math.MinInt + 1, -1<<32 + 1, -1 << 32, -1 << 31, -256, -2, -1, 0, api.MaxVersion + 1, api.MaxVersion + 2, 1<<32 - 1, 1 << 32, 1<<32 + 1, 1<<32 + api.MaxVersion, 1 << 62, math.MaxInt - 1, math.MaxInt}
}

// odd are texts of bytes that something could stumble over: no UTF-8, zero bytes, all bytes there are, a record.
func odd() []string {
	var all [256]byte
	for i := range all {
		all[i] = byte(i)
	}
	record, _ := journal.Frame(at(7, "within"))
	return []string{"", "\x00", "\x00\x00\x00", "a\x00b", "\xa5", "\xff", "\xff\xff\xff\xff", "\xc3", "\xc3\x28", "\x80\x80", "\xed\xa0\x80", "\xf8\x88\x80\x80\x80", "\xef\xbb\xbfa", "\uFFFD", "\n\r\n", "äöü", "\U0010FFFF", "123456789", string(all[:]), record, record + record[:20]}
}

// longest is a text of the greatest length.
func longest() string {
	d := dice(99)
	return d.text(api.MaxText)
}

// The chapter's examples, in their order.
func TestExamples(t *testing.T) {
	wantFrame(t, at(1, ""), "\xa5\x01\x00\x00\x00\x00\x00\x00\x00\x93\xd3\x90\x84\x00\x00\x00\x00")
	wantFrame(t, at(258, "ab"), "\xa5\x02\x01\x00\x00\x02\x00\x00\x00\x4f\x17\x61\x06ab\x6d\x48\x83\x9e")

	letters := strings.Repeat("a", 65537)
	wantNoFrame(t, at(0, ""), api.ErrRange)
	wantNoFrame(t, at(2147483648, letters), api.ErrRange)
	wantNoFrame(t, at(1, letters), api.ErrLong)

	wantRead(t, framed(t, at(1, "x"))+framed(t, at(1, ""))[:16], 18, at(1, "x"))
	wantRead(t, "", 0)

	wantNoJournal(t, holding(t, strings.Repeat("\x00", 17), 17), api.ErrTorn)
	opened(t, blank(t, 17))
	wantNoJournal(t, nil, api.ErrNil)

	j := opened(t, blank(t, 20))
	wantAppend(t, j, at(3, "ab"), api.OK)
	wantAppend(t, j, at(4, ""), api.ErrFull)
	wantLast(t, j, at(3, "ab"))
}
