package disk_test

import (
	"math"
	"strings"
	"testing"

	"gatehouse/api"
	"gatehouse/disk"
)

// 21.1

// wantNew asks for an error, and for no disk beside it; or for a disk.
func wantNew(t *testing.T, room int, want api.Errno) {
	t.Helper()
	d, e := disk.New(room)
	if e != want || (d != nil) != (want == api.OK) {
		t.Errorf("New(%d) = %v, %v, want %v", room, d != nil, e, want)
	}
}

// wantOpen is the same for Open.
func wantOpen(t *testing.T, bytes string, room int, want api.Errno) {
	t.Helper()
	d, e := disk.Open(bytes, room)
	if e != want || (d != nil) != (want == api.OK) {
		t.Errorf("Open of %d bytes, room %d = %v, %v, want %v", len(bytes), room, d != nil, e, want)
	}
}

// outside are numbers that are no room.
func outside() []int {
	return []int{math.MinInt, math.MinInt + 1, api.Poison, -1 << 32, -1<<32 + 1, -1048576, -2, -1, 1048577, 1048578, 2 * 1048576, 1 << 31, 1 << 32, 1<<32 + 1, 1 << 62, math.MaxInt - 1, math.MaxInt}
}

func TestTheGreatestRoom(t *testing.T) {
	if api.MaxDisk != 1048576 {
		t.Errorf("MaxDisk is %d", api.MaxDisk)
	}
}

func TestNewOfEachRoom(t *testing.T) {
	for room := range 1048576 + 1 {
		wantNew(t, room, api.OK)
	}
	for _, room := range outside() {
		wantNew(t, room, api.ErrRange)
	}
}

// A new disk has no bytes, and just so much room.
func TestNewIsEmpty(t *testing.T) {
	for _, room := range []int{0, 1, 2, 7, 8, 9, 4000, 1048575, 1048576} {
		d := made(t, room)
		wantHolds(t, d, "", "")
		for _, keep := range keeps(0) {
			wantCut(t, d, keep, "")
		}
		wantFree(t, d, room)
	}
}

// An opened disk has its bytes, all safe, and as much room as it was told, those bytes counted.
func TestOpenHoldsItsBytes(t *testing.T) {
	for _, bytes := range append(odd(), "ab", strings.Repeat("long ", 1000)) {
		for _, more := range []int{0, 1, 2, 5, 100} {
			d := opened(t, bytes, len(bytes)+more)
			wantHolds(t, d, bytes, "")
			wantFree(t, d, more)
			wantHolds(t, d, bytes, strings.Repeat("f", more))
		}
	}
}

func TestOpenOfJustTheRoom(t *testing.T) {
	for _, room := range []int{0, 1, 2, 3, 31, 32, 33, 4000, 1048575, 1048576} {
		full := strings.Repeat("x", room)
		wantHolds(t, opened(t, full, room), full, "")
		wantFree(t, opened(t, full, room), 0)
		for _, over := range []int{1, 2, 1000} {
			wantOpen(t, full+strings.Repeat("y", over), room, api.ErrFull)
		}
		if room > 0 {
			wantFree(t, opened(t, full[1:], room), 1)
		}
	}
}

// A room that is wrong is told first, however many bytes there are.
func TestOpenWithAWrongRoom(t *testing.T) {
	for _, bytes := range []string{"", "a", "abc", strings.Repeat("z", 1048576), strings.Repeat("z", 1048577), strings.Repeat("z", 1048578)} {
		for _, room := range outside() {
			wantOpen(t, bytes, room, api.ErrRange)
		}
		for _, room := range []int{0, 1, 2, 3, 1048575, 1048576} {
			want := api.OK
			if len(bytes) > room {
				want = api.ErrFull
			}
			wantOpen(t, bytes, room, want)
		}
	}
}

// Without bytes Open is as New.
func TestOpenOfNothing(t *testing.T) {
	for _, room := range []int{0, 1, 9, 1048576} {
		d := opened(t, "", room)
		wantHolds(t, d, "", "")
		wantFree(t, d, room)
	}
	for _, room := range outside() {
		wantOpen(t, "", room, api.ErrRange)
	}
}

// Two disks share nothing, whatever they were made of and whatever is done with one of them.
func TestTwoDisksShareNothing(t *testing.T) {
	for _, first := range []string{"", "a", "abcdefg", strings.Repeat("ab", 100)} {
		a, b := opened(t, first, 1000), opened(t, first, 1000)
		wantAppend(t, a, "one", api.OK)
		wantHolds(t, b, first, "")
		wantAppend(t, b, "four", api.OK)
		wantHolds(t, a, first, "one")
		a.Sync()
		wantHolds(t, a, first+"one", "")
		wantHolds(t, b, first, "four")
		wantAppend(t, a, "five", api.OK)
		wantHolds(t, b, first, "four")
		wantHolds(t, a, first+"one", "five")
	}
}

// Disks of what one disk told go on each by itself, whatever room the first one had behind its bytes.
func TestDisksOfOneDiskShareNothing(t *testing.T) {
	a := made(t, 1000)
	for range 10 {
		wantAppend(t, a, "abc", api.OK)
	}
	b, c := opened(t, a.Bytes(), 1000), opened(t, a.Cut(3), 1000)
	wantAppend(t, b, "B", api.OK)
	wantAppend(t, c, "C", api.OK)
	wantAppend(t, a, "A", api.OK)
	ten := strings.Repeat("abc", 10)
	wantHolds(t, a, "", ten+"A")
	wantHolds(t, b, ten, "B")
	wantHolds(t, c, "abc", "C")
}

// What one handed in may be changed behind that: bytes that were made a text are the disk's own.
func TestBytesHandedInAreNotKept(t *testing.T) {
	own := []byte("abcdef")
	d := opened(t, string(own[:3]), 10)
	wantAppend(t, d, string(own[3:]), api.OK)
	clear(own)
	wantHolds(t, d, "abc", "def")
}
