package disk_test

import (
	"strings"
	"testing"

	"gatehouse/api"
)

// 21.2

func TestAppendStandsBehind(t *testing.T) {
	for _, first := range odd() {
		for _, second := range odd() {
			for _, third := range odd() {
				d := opened(t, first, 1000)
				wantAppend(t, d, second, api.OK)
				wantHolds(t, d, first, second)
				wantAppend(t, d, third, api.OK)
				wantHolds(t, d, first, second+third)
			}
		}
	}
}

// Bytes that are safe stay so, and only they are.
func TestAppendIsNotSafe(t *testing.T) {
	d := made(t, 100)
	wantAppend(t, d, "ab", api.OK)
	wantHolds(t, d, "", "ab")
	d.Sync()
	wantAppend(t, d, "c", api.OK)
	wantHolds(t, d, "ab", "c")
	wantAppend(t, d, "de", api.OK)
	wantHolds(t, d, "ab", "cde")
}

// All sizes of what is there, safe and not, and of what is appended, round the room.
func TestAppendOfEachSize(t *testing.T) {
	const letters = "abcdefghijklmnopqrstuvwxyz"
	for room := range 8 {
		for safe := range room + 1 {
			for loose := range room - safe + 1 {
				for more := range 10 {
					d := opened(t, letters[:safe], room)
					wantAppend(t, d, letters[safe:safe+loose], api.OK)
					behind := letters[safe : safe+loose]
					want := api.ErrFull
					if safe+loose+more <= room {
						want = api.OK
						behind = letters[safe : safe+loose+more]
					}
					wantAppend(t, d, letters[safe+loose:safe+loose+more], want)
					wantHolds(t, d, letters[:safe], behind)
				}
			}
		}
	}
}

// An append that is too long takes nothing, not even the beginning that would fit; what fits goes on to fit.
func TestARefusedAppendChangesNothing(t *testing.T) {
	d := opened(t, "ab", 5)
	wantAppend(t, d, "c", api.OK)
	for _, long := range []string{"def", "defg", strings.Repeat("d", 5), strings.Repeat("d", 6), strings.Repeat("d", 1048576), strings.Repeat("d", 1048577)} {
		for range 3 {
			wantAppend(t, d, long, api.ErrFull)
			wantHolds(t, d, "ab", "c")
		}
	}
	wantAppend(t, d, "", api.OK)
	wantAppend(t, d, "d", api.OK)
	wantAppend(t, d, "ef", api.ErrFull)
	wantAppend(t, d, "e", api.OK)
	wantHolds(t, d, "ab", "cde")
	wantAppend(t, d, "f", api.ErrFull)
	d.Sync()
	wantHolds(t, d, "abcde", "")
}

// A Sync makes no room, and a Cut neither.
func TestAFullDiskStaysFull(t *testing.T) {
	d := made(t, 3)
	wantAppend(t, d, "abc", api.OK)
	d.Cut(1)
	wantAppend(t, d, "d", api.ErrFull)
	wantHolds(t, d, "", "abc")
	d.Sync()
	wantAppend(t, d, "d", api.ErrFull)
	wantHolds(t, d, "abc", "")
}

func TestAppendOfNothing(t *testing.T) {
	for _, room := range []int{0, 1, 3, 1048576} {
		d := made(t, room)
		wantAppend(t, d, "", api.OK)
		wantHolds(t, d, "", "")
		full := strings.Repeat("x", room)
		wantAppend(t, d, full, api.OK)
		for range 3 {
			wantAppend(t, d, "", api.OK)
			wantHolds(t, d, "", full)
		}
		d.Sync()
		wantAppend(t, d, "", api.OK)
		wantHolds(t, d, full, "")
	}
}

// The greatest disk takes all its bytes, in pieces or at once, and no byte more.
func TestTheGreatestDisk(t *testing.T) {
	d := dice(21)
	piece := d.text(4096)
	pieces := made(t, 1048576)
	for n := range 256 {
		wantAppend(t, pieces, piece, api.OK)
		if n == 99 {
			pieces.Sync()
		}
	}
	wantAppend(t, pieces, "x", api.ErrFull)
	wantHolds(t, pieces, strings.Repeat(piece, 100), strings.Repeat(piece, 156))
	once := made(t, 1048576)
	wantAppend(t, once, strings.Repeat(piece, 256)+"x", api.ErrFull)
	wantHolds(t, once, "", "")
	wantAppend(t, once, strings.Repeat(piece, 256), api.OK)
	wantAppend(t, once, "x", api.ErrFull)
	wantHolds(t, once, "", strings.Repeat(piece, 256))
}

// A disk that is filled byte by byte, as far as may be: it ends soon, and each byte is at its place.
func TestAByteAtATime(t *testing.T) {
	d := made(t, 1048576)
	for n := range 1048576 {
		if e := d.Append(string([]byte{byte(n * 7)})); e != api.OK {
			t.Fatalf("byte %d: %v", n, e)
		}
	}
	wantAppend(t, d, "x", api.ErrFull)
	bytes := d.Bytes()
	for n := range 1048576 {
		if bytes[n] != byte(n*7) {
			t.Fatalf("byte %d is %d", n, bytes[n])
		}
	}
}
