package journal_test

import (
	"math"
	"slices"
	"testing"

	"gatehouse/api"
	"gatehouse/disk"
	"gatehouse/journal"
)

// 22.6

// ends are where the records of some entries end, the beginning ahead of them.
func ends(entries []api.Entry) []int {
	list := []int{0}
	for _, e := range entries {
		list = append(list, list[len(list)-1]+17+len(e.Text))
	}
	return list
}

// whole is how many of some records are there, if so many bytes are.
func whole(ends []int, bytes int) int {
	n := 0
	for n+1 < len(ends) && ends[n+1] <= bytes {
		n++
	}
	return n
}

func TestRecordsCutOffAtEveryByte(t *testing.T) {
	d := dice(226)
	rows := [][]api.Entry{{at(1, "")}, {at(1, ""), at(1, ""), at(1, "")}, {at(1, "x"), at(api.MaxVersion, odd()[18])}, {at(1, framed(t, at(2, "in"))), at(3, "")}}
	for n := range 30 {
		rows = append(rows, d.entries(n))
	}
	for _, entries := range rows {
		all, ends := laid(t, entries...), ends(entries)
		for cut := range len(all) + 1 {
			n := whole(ends, cut)
			wantRead(t, all[:cut], ends[n], entries[:n]...)
		}
	}
}

func TestALongRecordCutOff(t *testing.T) {
	a, b := at(1, "x"), at(2, longest())
	all := laid(t, a, b, a)
	for cut := 18; cut < 18+17+api.MaxText; cut += 997 {
		wantRead(t, all[:cut], 18, a)
	}
	last := 18 + 17 + api.MaxText
	wantRead(t, all[:last-1], 18, a)
	wantRead(t, all[:last], last, a, b)
	wantRead(t, all[:last+17], last, a, b)
	wantRead(t, all, last+18, a, b, a)
}

// Each byte of some records is turned into each other one.
func TestEachByteTurned(t *testing.T) {
	d := dice(2260)
	rows := [][]api.Entry{{at(1, "")}, {at(api.MaxVersion, "\x00\x00\x00"), at(256, "")}, {at(1, "x"), at(2, "ab\xff"), at(3, "")}}
	for n := range 4 {
		rows = append(rows, d.entries(n+1))
	}
	for _, entries := range rows {
		bytes, ends := []byte(laid(t, entries...)), ends(entries)
		for spot, was := range bytes {
			n := whole(ends, spot)
			for turn := 1; turn < 256; turn++ {
				bytes[spot] = was ^ byte(turn)
				wantRead(t, string(bytes), ends[n], entries[:n]...)
			}
			bytes[spot] = was
		}
	}
}

func TestAByteOfALongRecordTurned(t *testing.T) {
	a, b := at(1, "x"), at(2, longest())
	bytes := []byte(laid(t, a, b, a))
	d := dice(2261)
	for n := range 200 {
		spot := 18 + d.throw(17+api.MaxText)
		if n < 13 {
			spot = 18 + n
		}
		was := bytes[spot]
		bytes[spot] ^= byte(1 + d.throw(255))
		wantRead(t, string(bytes), 18, a)
		bytes[spot] = was
	}
	wantRead(t, string(bytes), len(bytes), a, b, a)
}

// life is a journal with its disk, and what is remembered of it: the entries that were taken, and how many were at the last Sync.
type life struct {
	disk    *disk.Disk
	journal *journal.Journal
	entries []api.Entry
	safe    int
}

func (l *life) step(t *testing.T, d *dice) {
	t.Helper()
	switch d.throw(6) {
	case 0:
		wantSync(t, l.journal)
		l.safe = len(l.entries)
	case 1:
		wantAppend(t, l.journal, at(0, ""), api.ErrRange)
	default:
		e := d.entries(1)[0]
		if l.journal.Append(e) == api.OK {
			l.entries = append(l.entries, e)
		}
	}
}

// cut asks for what a power cut leaves: the entries that were safe, and some of the first of the others; it tells how many.
func (l *life) cut(t *testing.T, keep int) int {
	t.Helper()
	left := l.disk.Cut(keep)
	entries, read := journal.Read(left)
	if len(entries) < l.safe || len(entries) > len(l.entries) || !slices.Equal(entries, l.entries[:len(entries)]) {
		t.Errorf("a cut that keeps %d bytes leaves %s of %s, of which %d were safe", keep, toldAll(entries), toldAll(l.entries), l.safe)
	}
	again := holding(t, left[:read], len(left)+17)
	j := opened(t, again, entries...)
	wantAppend(t, j, at(1, ""), api.OK)
	opened(t, again, append(entries, at(1, ""))...)
	return len(entries)
}

func TestWhatAPowerCutLeaves(t *testing.T) {
	d := dice(2262)
	some, none, all := 0, 0, 0
	for row := range 60 {
		l := &life{disk: blank(t, 50+d.throw(400))}
		l.journal = opened(t, l.disk)
		for range 30 {
			l.step(t, &d)
			loose := len(l.disk.Bytes()) - l.disk.Safe()
			fewer := 0
			for keep := range loose + 2 {
				n := l.cut(t, keep)
				if n < fewer {
					t.Errorf("with %d bytes kept %d entries are left, with fewer %d", keep, n, fewer)
				}
				fewer = n
				switch {
				case n == len(l.entries):
					all++
				case n == l.safe:
					none++
				default:
					some++
				}
			}
			if l.cut(t, math.MinInt) != l.safe || l.cut(t, math.MaxInt) != len(l.entries) {
				t.Errorf("a cut that keeps nothing leaves %d, one that keeps all %d, want %d and %d", l.cut(t, math.MinInt), l.cut(t, math.MaxInt), l.safe, len(l.entries))
			}
			if t.Failed() {
				t.Fatalf("row %d", row)
			}
		}
	}
	if some < 1000 || none < 1000 || all < 1000 {
		t.Errorf("%d times some were left, %d times none, %d times all: too few to tell", some, none, all)
	}
}
