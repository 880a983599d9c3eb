package disk_test

import (
	"math"
	"slices"
	"strings"
	"testing"

	"gatehouse/api"
	"gatehouse/disk"
)

// 21.5

// life is a disk, and what is remembered of it: what was there at the last Sync (or at Open), and all that Bytes ever told.
type life struct {
	disk *disk.Disk
	last string
	told []string
	room int
}

// step does something by the dice.
func (l *life) step(d *dice) {
	switch d.throw(5) {
	case 0:
		l.disk.Sync()
		l.last = l.disk.Bytes()
	case 1:
		l.disk.Cut(d.throw(20) - 5)
	default:
		l.disk.Append(d.text(d.throw(9)))
	}
	l.told = append(l.told, l.disk.Bytes())
}

// look holds what the disk tells against what it told.
func (l *life) look(t *testing.T, d *dice) {
	t.Helper()
	bytes := l.disk.Bytes()
	earlier := l.told[d.throw(len(l.told))]
	if !strings.HasPrefix(bytes, earlier) {
		t.Errorf("%q was there, %q is there now", earlier, bytes)
	}
	if l.disk.Safe() != len(l.last) {
		t.Errorf("%d bytes are safe, %d were there at the last Sync", l.disk.Safe(), len(l.last))
	}
	list := append(keeps(len(bytes)-len(l.last)), d.throw(20), d.throw(20))
	slices.Sort(list)
	fewer := ""
	for _, keep := range list {
		left := l.disk.Cut(keep)
		if !strings.HasPrefix(bytes, left) || !strings.HasPrefix(left, l.last) {
			t.Errorf("Cut(%d) leaves %q of %q, of which %q was synced", keep, left, bytes, l.last)
		}
		if !strings.HasPrefix(left, fewer) {
			t.Errorf("Cut(%d) leaves %q, with fewer kept it was %q", keep, left, fewer)
		}
		fewer = left
		wantHolds(t, opened(t, left, len(left)), left, "")
		wantHolds(t, opened(t, left, l.room), left, "")
	}
}

func TestWhatACutLeaves(t *testing.T) {
	d := dice(215)
	full, loose := 0, 0
	for row := range 150 {
		room := d.throw(120)
		first := d.text(d.throw(room + 1))
		if row%3 > 0 {
			first = ""
		}
		l := &life{disk: opened(t, first, room), last: first, told: []string{first}, room: room}
		for range 60 {
			l.step(&d)
			l.look(t, &d)
			if t.Failed() {
				t.Fatalf("row %d", row)
			}
			wantAppend(t, l.disk, strings.Repeat("x", room+1), api.ErrFull)
			if len(l.disk.Bytes()) == room {
				full++
			}
			if l.disk.Safe() < len(l.disk.Bytes()) {
				loose++
			}
		}
	}
	if full < 200 || loose < 1000 {
		t.Errorf("%d full disks, %d disks with bytes that are not safe: too few to tell", full, loose)
	}
}

// Behind a Sync a cut leaves all of Bytes, whatever is kept; at Open too.
func TestBehindASyncACutLeavesAll(t *testing.T) {
	d := made(t, 1000)
	all := ""
	for n, b := range odd() {
		wantAppend(t, d, b, api.OK)
		d.Sync()
		all += b
		for _, keep := range keeps(n) {
			wantCut(t, d, keep, all)
			wantCut(t, opened(t, all, 1000), keep, all)
		}
	}
}

// One power cut behind the other, each disk opened with what the one ahead of it left: what was synced once is there at the end.
func TestCutAfterCut(t *testing.T) {
	for _, keep := range []int{math.MinInt, -1, 0, 1, 2, 3, math.MaxInt} {
		d := made(t, 10000)
		want := ""
		for n := range 100 {
			b := alphabet[n%20 : n%20+n%5]
			wantAppend(t, d, b, api.OK)
			if n%3 == 0 {
				d.Sync()
				want += b
			} else {
				want += b[:min(max(keep, 0), len(b))]
			}
			d = opened(t, d.Cut(keep), 10000)
			wantHolds(t, d, want, "")
		}
	}
}

// What a cut left fits a disk of the same room, the fullest too.
func TestWhatACutLeftFits(t *testing.T) {
	for room := range 20 {
		d := made(t, room)
		wantAppend(t, d, alphabet[:room], api.OK)
		for keep := range room + 2 {
			left := alphabet[:min(keep, room)]
			o := opened(t, d.Cut(keep), room)
			wantHolds(t, o, left, "")
			wantFree(t, o, room-len(left))
		}
	}
}
