package journal_test

import (
	"testing"

	"gatehouse/api"
	"gatehouse/journal"
)

// 22.5

func TestLastWithoutAnyEntry(t *testing.T) {
	j := opened(t, blank(t, 16))
	wantNoLast(t, j)
	wantSync(t, j)
	wantNoLast(t, j)
	wantAppend(t, j, at(1, ""), api.ErrFull)
	wantNoLast(t, j)
	wantAppend(t, j, at(0, ""), api.ErrRange)
	wantAppend(t, j, at(-1, "x"), api.ErrRange)
	wantAppend(t, j, at(1, longest()+"a"), api.ErrLong)
	wantNoLast(t, j)
}

// The last one that Open found, whatever the versions are.
func TestLastBehindOpen(t *testing.T) {
	d := dice(225)
	for n := 1; n < 40; n++ {
		entries := d.entries(n)
		j := opened(t, holding(t, laid(t, entries...), 4000), entries...)
		wantLast(t, j, entries[n-1])
		wantLast(t, j, entries[n-1])
	}
	for _, version := range rightVersions() {
		for _, text := range odd() {
			e := at(version, text)
			wantLast(t, opened(t, holding(t, framed(t, e), 4000), e), e)
		}
	}
}

// The one that was appended last, safe or not.
func TestLastBehindAppend(t *testing.T) {
	found := at(api.MaxVersion, "found")
	j := opened(t, holding(t, framed(t, found), api.MaxDisk), found)
	wantLast(t, j, found)
	for _, version := range []int{5, 1, api.MaxVersion} {
		for _, text := range append(odd(), longest()) {
			e := at(version, text)
			wantAppend(t, j, e, api.OK)
			wantLast(t, j, e)
			wantSync(t, j)
			wantLast(t, j, e)
		}
	}
}

func TestLastBehindARefusedAppend(t *testing.T) {
	a := at(6, "a")
	found := opened(t, holding(t, framed(t, a), 20), a)
	appended := opened(t, blank(t, 20))
	wantAppend(t, appended, a, api.OK)
	for _, j := range []*journal.Journal{found, appended} {
		wantAppend(t, j, at(7, ""), api.ErrFull)
		wantLast(t, j, a)
		wantAppend(t, j, at(0, "zero"), api.ErrRange)
		wantLast(t, j, a)
		wantAppend(t, j, at(8, longest()+"a"), api.ErrLong)
		wantLast(t, j, a)
	}
}

// An entry that stands on a disk and is lost by a cut is not the last one of the journal that is opened then.
func TestLastBehindACut(t *testing.T) {
	a, b := at(1, "safe"), at(2, "lost")
	d := blank(t, 100)
	j := opened(t, d)
	wantAppend(t, j, a, api.OK)
	wantSync(t, j)
	wantAppend(t, j, b, api.OK)
	wantLast(t, j, b)
	wantLast(t, opened(t, holding(t, d.Cut(0), 100), a), a)
	wantLast(t, opened(t, holding(t, d.Cut(99), 100), a, b), b)
	wantLast(t, j, b)
}
