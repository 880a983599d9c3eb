package journal_test

import (
	"slices"
	"strings"
	"testing"

	"gatehouse/api"
	"gatehouse/journal"
)

// 22.3

func TestOpenOfNoDisk(t *testing.T) {
	wantNoJournal(t, nil, api.ErrNil)
}

func TestOpenOfAnEmptyDisk(t *testing.T) {
	for _, room := range []int{0, 1, 16, 17, 4000, api.MaxDisk} {
		d := blank(t, room)
		j := opened(t, d)
		wantOn(t, d, "", "")
		wantNoLast(t, j)
	}
}

func TestOpenOfRecords(t *testing.T) {
	d := dice(223)
	for n := range 40 {
		entries := d.entries(n)
		all := laid(t, entries...)
		for _, room := range []int{len(all), len(all) + 1, len(all) + 1000} {
			on := holding(t, all, room)
			opened(t, on, entries...)
			wantOn(t, on, all, "")
		}
	}
	e := at(api.MaxVersion, longest())
	opened(t, holding(t, framed(t, e), api.MaxDisk), e)
}

// A disk with bytes left over is torn, and stays as it is.
func TestOpenOfATornDisk(t *testing.T) {
	a, b := framed(t, at(1, "x")), framed(t, at(2, ""))
	var torn []string
	for n := 1; n < len(b); n++ {
		torn = append(torn, b[:n], a+b[:n], a+b+b[:n], b[n:], a+b[n:], b[n:]+a)
	}
	for length := 1; length < 40; length++ {
		torn = append(torn, strings.Repeat("\x00", length), a+strings.Repeat("\x00", length))
	}
	torn = append(torn, a+"\x00"+b, forged(0xA5, 0, 0, ""), forged(0xA5, 1<<31, 0, ""), forged(0x5A, 1, 0, ""), a+forged(0xA5, 1, 65537, longest()+"a"))
	for _, bytes := range torn {
		d := holding(t, bytes, len(bytes)+50)
		wantNoJournal(t, d, api.ErrTorn)
		wantOn(t, d, bytes, "")
	}
}

// All bytes count, the safe ones and the others; none gets safe by Open.
func TestOpenOfADiskThatIsNotSafe(t *testing.T) {
	a, b := at(1, "x"), at(2, "y")
	d := holding(t, framed(t, a), 100)
	d.Append(framed(t, b))
	j := opened(t, d, a, b)
	wantOn(t, d, framed(t, a), framed(t, b))
	wantLast(t, j, b)

	d.Append("\xa5")
	wantNoJournal(t, d, api.ErrTorn)
	wantOn(t, d, framed(t, a), framed(t, b)+"\xa5")

	none := blank(t, 100)
	none.Append("\x00")
	wantNoJournal(t, none, api.ErrTorn)
	wantOn(t, none, "", "\x00")
}

// What a cut left is torn just where it cut through a record.
func TestOpenOfWhatACutLeft(t *testing.T) {
	a, b, c := at(1, "safe"), at(2, "not"), at(3, "")
	d := holding(t, framed(t, a), 200)
	d.Append(framed(t, b))
	d.Append(framed(t, c))
	for keep := range 20 + 17 + 5 {
		left := holding(t, d.Cut(keep), 200)
		switch {
		case keep == 0:
			opened(t, left, a)
		case keep == 20:
			opened(t, left, a, b)
		case keep >= 37:
			opened(t, left, a, b, c)
		default:
			wantNoJournal(t, left, api.ErrTorn)
		}
	}
}

// A disk may be opened again, as often as one likes: there is just as much on it.
func TestOpenAgain(t *testing.T) {
	d := blank(t, 1000)
	var all []api.Entry
	for n := range 20 {
		j := opened(t, d, all...)
		e := at(20-n, strings.Repeat("x", n))
		wantAppend(t, j, e, api.OK)
		if n%3 == 0 {
			wantSync(t, j)
		}
		all = append(all, e)
	}
	wantLast(t, opened(t, d, all...), at(1, strings.Repeat("x", 19)))
}

// The list is the caller's: what is done with it changes neither the journal nor the disk.
func TestTheListIsTheCallers(t *testing.T) {
	a, b := at(1, "x"), at(2, "y")
	d := holding(t, laid(t, a, b), 100)
	j, entries, _ := journal.Open(d)
	_, other, _ := journal.Open(d)
	for n := range entries {
		entries[n] = at(77, "changed")
	}
	_ = append(entries[:1], at(78, "changed"))
	wantLast(t, j, b)
	if !slices.Equal(other, []api.Entry{a, b}) {
		t.Errorf("another list was changed: %s", toldAll(other))
	}
	opened(t, d, a, b)
	wantAppend(t, j, at(3, ""), api.OK)
	wantOn(t, d, laid(t, a, b), framed(t, at(3, "")))
}
