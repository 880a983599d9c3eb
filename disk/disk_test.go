package disk_test

import (
	"math"
	"strings"
	"testing"

	"gatehouse/api"
	"gatehouse/disk"
)

// made is an empty disk.
func made(t *testing.T, room int) *disk.Disk {
	t.Helper()
	d, e := disk.New(room)
	if e != api.OK || d == nil {
		t.Fatalf("New(%d) = %v, %v", room, d != nil, e)
	}
	return d
}

// opened is a disk with bytes.
func opened(t *testing.T, bytes string, room int) *disk.Disk {
	t.Helper()
	d, e := disk.Open(bytes, room)
	if e != api.OK || d == nil {
		t.Fatalf("Open of %d bytes, room %d = %v, %v", len(bytes), room, d != nil, e)
	}
	return d
}

// short is a text that can be told: a long one by its length and its ends.
func short(text string) string {
	if len(text) <= 40 {
		return text
	}
	return text[:16] + " .. " + text[len(text)-16:]
}

func wantAppend(t *testing.T, d *disk.Disk, b string, want api.Errno) {
	t.Helper()
	if e := d.Append(b); e != want {
		t.Errorf("Append of %d bytes %q = %v, want %v", len(b), short(b), e, want)
	}
}

func wantCut(t *testing.T, d *disk.Disk, keep int, want string) {
	t.Helper()
	if got := d.Cut(keep); got != want {
		t.Errorf("Cut(%d) = %d bytes %q, want %d bytes %q", keep, len(got), short(got), len(want), short(want))
	}
}

// wantHolds asks for all that a disk tells: the bytes that are safe, and those behind them.
func wantHolds(t *testing.T, d *disk.Disk, safe, behind string) {
	t.Helper()
	if got := d.Bytes(); got != safe+behind {
		t.Errorf("Bytes() = %d bytes %q, want %d bytes %q", len(got), short(got), len(safe+behind), short(safe+behind))
	}
	if got := d.Safe(); got != len(safe) {
		t.Errorf("Safe() = %d, want %d", got, len(safe))
	}
	wantCut(t, d, 0, safe)
	wantCut(t, d, math.MaxInt, safe+behind)
}

// wantFree asks that just so many bytes may be appended still; the disk is full then.
func wantFree(t *testing.T, d *disk.Disk, free int) {
	t.Helper()
	wantAppend(t, d, strings.Repeat("f", free+1), api.ErrFull)
	wantAppend(t, d, strings.Repeat("f", free), api.OK)
	wantAppend(t, d, "f", api.ErrFull)
	wantAppend(t, d, "", api.OK)
}

// dice throws numbers, always the same ones.
type dice uint64

func (d *dice) throw(n int) int {
	*d = *d*6364136223846793005 + 1442695040888963407
	return int(uint64(*d>>33) % uint64(n))
}

// text is so many bytes, of all kinds.
func (d *dice) text(n int) string {
	b := make([]byte, n)
	for i := range b {
		b[i] = byte(d.throw(256))
	}
	return string(b)
}

// odd are texts of bytes that something could stumble over.
func odd() []string {
	var all [256]byte
	for i := range all {
		all[i] = byte(i)
	}
	return []string{"", "\x00", "\x00\x00\x00", "a\x00b", "\xff", "\xc3", "\xc3\x28", "\x80\x80", "\xed\xa0\x80", "\xf8\x88\x80\x80\x80", "\xef\xbb\xbfa", "\uFFFD", "\n\r\n", "äöü", "\U0010FFFF", string(all[:])}
}

// keeps are numbers of bytes that may be kept, of so many that are not safe.
func keeps(loose int) []int {
	return []int{math.MinInt, math.MinInt + 1, -1 << 32, -loose - 1, -loose, -1, 0, 1, loose - 1, loose, loose + 1, api.MaxDisk, api.MaxDisk + 1, 1 << 32, 1<<32 + 1, 1 << 62, math.MaxInt - loose, math.MaxInt - 1, math.MaxInt}
}

// The chapter's examples, in their order.
func TestExamples(t *testing.T) {
	wantNew(t, -1, api.ErrRange)
	wantNew(t, 1048577, api.ErrRange)
	wantOpen(t, "abc", 2, api.ErrFull)

	none := made(t, 0)
	wantAppend(t, none, "", api.OK)
	wantAppend(t, none, "a", api.ErrFull)

	d := opened(t, "ab", 5)
	wantHolds(t, d, "ab", "")
	wantAppend(t, d, "cd", api.OK)
	wantHolds(t, d, "ab", "cd")
	wantCut(t, d, -7, "ab")
	wantCut(t, d, 0, "ab")
	wantCut(t, d, 1, "abc")
	wantCut(t, d, 9, "abcd")
	wantAppend(t, d, "ef", api.ErrFull)
	wantHolds(t, d, "ab", "cd")
	d.Sync()
	wantHolds(t, d, "abcd", "")
	wantAppend(t, d, "e", api.OK)
	wantHolds(t, d, "abcd", "e")
	wantCut(t, d, 0, "abcd")
	wantCut(t, d, 1, "abcde")
}
