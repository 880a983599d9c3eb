package journal_test

import (
	"math"
	"strings"
	"testing"

	"gatehouse/api"
)

// 22.4

func TestAppendPutsTheRecordBehind(t *testing.T) {
	d := blank(t, api.MaxDisk)
	j := opened(t, d)
	var entries []api.Entry
	all := ""
	for n, text := range append(odd(), longest()) {
		e := at(rightVersions()[n%len(rightVersions())], text)
		wantAppend(t, j, e, api.OK)
		all += framed(t, e)
		entries = append(entries, e)
		wantOn(t, d, "", all)
	}
	wantRead(t, d.Bytes(), len(all), entries...)
}

func TestAppendBehindWhatOpenFound(t *testing.T) {
	a, b, c := at(9, "found"), at(2, "unsafe"), at(3, "appended")
	d := holding(t, framed(t, a), 1000)
	d.Append(framed(t, b))
	j := opened(t, d, a, b)
	wantAppend(t, j, c, api.OK)
	wantOn(t, d, framed(t, a), laid(t, b, c))
	opened(t, d, a, b, c)
}

// The order and the size of the versions are not asked, nor whether the same was there.
func TestAppendOfAnyVersion(t *testing.T) {
	d := blank(t, 1000)
	j := opened(t, d)
	entries := []api.Entry{at(7, "x"), at(7, "x"), at(3, "y"), at(api.MaxVersion, ""), at(1, "x")}
	for _, e := range entries {
		wantAppend(t, j, e, api.OK)
		wantLast(t, j, e)
	}
	wantOn(t, d, "", laid(t, entries...))
}

// An Append refused by the entry changes nothing, whatever room there is.
func TestARefusedEntryChangesNothing(t *testing.T) {
	a, b := at(1, "safe"), at(2, "not")
	for _, free := range []int{0, 16, 17, 1000, 200000} {
		d := holding(t, framed(t, a), len(laid(t, a, b))+free)
		j := opened(t, d, a)
		wantAppend(t, j, b, api.OK)
		for _, version := range wrongVersions() {
			for _, text := range []string{"", "x", longest(), longest() + "a"} {
				wantAppend(t, j, at(version, text), api.ErrRange)
			}
		}
		for _, version := range rightVersions() {
			wantAppend(t, j, at(version, longest()+"a"), api.ErrLong)
		}
		wantOn(t, d, framed(t, a), framed(t, b))
		wantLast(t, j, b)
		wantSync(t, j)
		wantOn(t, d, laid(t, a, b), "")
	}
}

// A record that just fills the disk, and one that has a byte too many.
func TestAppendUpToTheRoom(t *testing.T) {
	for length := range 40 {
		e := at(5, strings.Repeat("\xfe", length))
		size := 17 + length
		for room := range 70 {
			d := blank(t, room)
			j := opened(t, d)
			if size > room {
				wantAppend(t, j, e, api.ErrFull)
				wantOn(t, d, "", "")
				wantNoLast(t, j)
				continue
			}
			wantAppend(t, j, e, api.OK)
			wantOn(t, d, "", framed(t, e))
			wantAppend(t, j, at(6, strings.Repeat("a", max(0, room-size-17+1))), api.ErrFull)
			wantOn(t, d, "", framed(t, e))
			wantLast(t, j, e)
		}
	}
	d := blank(t, 17+api.MaxText)
	j := opened(t, d)
	wantAppend(t, j, at(1, longest()), api.OK)
	wantAppend(t, j, at(1, ""), api.ErrFull)
	wantOn(t, d, "", framed(t, at(1, longest())))
}

// None of a refused record's bytes is on the disk: what fits is taken later, and right behind.
func TestBehindARefusalWhatFitsIsTaken(t *testing.T) {
	d := blank(t, 40)
	j := opened(t, d)
	wantAppend(t, j, at(1, "abc"), api.OK)
	wantAppend(t, j, at(2, "abcd"), api.ErrFull)
	wantAppend(t, j, at(3, longest()), api.ErrFull)
	wantSync(t, j)
	wantOn(t, d, framed(t, at(1, "abc")), "")
	wantAppend(t, j, at(4, "xyz"), api.OK)
	wantOn(t, d, framed(t, at(1, "abc")), framed(t, at(4, "xyz")))
	wantAppend(t, j, at(5, ""), api.ErrFull)
	opened(t, d, at(1, "abc"), at(4, "xyz"))
}

// On a full disk the entry's refusal comes ahead of the disk's.
func TestTheEntryIsAskedFirst(t *testing.T) {
	for _, room := range []int{0, 16} {
		d := blank(t, room)
		j := opened(t, d)
		wantAppend(t, j, at(0, longest()+"a"), api.ErrRange)
		wantAppend(t, j, at(math.MinInt, ""), api.ErrRange)
		wantAppend(t, j, at(1, longest()+"a"), api.ErrLong)
		wantAppend(t, j, at(1, longest()), api.ErrFull)
		wantAppend(t, j, at(1, ""), api.ErrFull)
		wantOn(t, d, "", "")
	}
}

func TestSyncMakesAllSafe(t *testing.T) {
	d := blank(t, 10000)
	j := opened(t, d)
	safe, behind := "", ""
	for n := range 30 {
		e := at(n+1, strings.Repeat("s", n))
		wantAppend(t, j, e, api.OK)
		behind += framed(t, e)
		wantOn(t, d, safe, behind)
		if n%3 == 2 {
			wantSync(t, j)
			safe, behind = safe+behind, ""
			wantOn(t, d, safe, "")
		}
		wantLast(t, j, e)
	}
}

// What Open found that was not safe is made safe as well.
func TestSyncOfWhatOpenFound(t *testing.T) {
	a, b := at(1, "x"), at(2, "y")
	d := holding(t, framed(t, a), 100)
	d.Append(framed(t, b))
	wantSync(t, opened(t, d, a, b))
	wantOn(t, d, laid(t, a, b), "")
}

// A Sync of nothing new changes nothing: ahead of any entry, behind Open, behind another Sync, behind a refused Append.
func TestSyncOfNothingNew(t *testing.T) {
	for _, room := range []int{0, 30} {
		d := blank(t, room)
		j := opened(t, d)
		wantSync(t, j)
		wantSync(t, j)
		wantOn(t, d, "", "")
		wantNoLast(t, j)
	}
	a := at(1, "x")
	d := holding(t, framed(t, a), 30)
	j := opened(t, d, a)
	wantSync(t, j)
	wantSync(t, j)
	wantOn(t, d, framed(t, a), "")
	wantAppend(t, j, at(2, ""), api.ErrFull)
	wantAppend(t, j, at(0, ""), api.ErrRange)
	wantSync(t, j)
	wantOn(t, d, framed(t, a), "")
	wantLast(t, j, a)
}

// A record that was safe stays safe, whatever is appended behind it.
func TestSafeStaysSafe(t *testing.T) {
	a, b := at(1, "x"), at(2, "y")
	d := blank(t, 100)
	j := opened(t, d)
	wantAppend(t, j, a, api.OK)
	wantSync(t, j)
	wantAppend(t, j, b, api.OK)
	wantOn(t, d, framed(t, a), framed(t, b))
	if left := d.Cut(0); left != framed(t, a) {
		t.Errorf("a cut leaves %s", short(left))
	}
}

// Journals over disks of their own do nothing to one another.
func TestJournalsApart(t *testing.T) {
	one, two := blank(t, 100), blank(t, 100)
	j, k := opened(t, one), opened(t, two)
	wantAppend(t, j, at(1, "one"), api.OK)
	wantNoLast(t, k)
	wantAppend(t, k, at(2, "two"), api.OK)
	wantSync(t, j)
	wantOn(t, one, framed(t, at(1, "one")), "")
	wantOn(t, two, "", framed(t, at(2, "two")))
	wantLast(t, j, at(1, "one"))
	wantLast(t, k, at(2, "two"))
}
