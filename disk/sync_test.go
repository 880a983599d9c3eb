package disk_test

import (
	"testing"

	"gatehouse/api"
)

// 21.3

func TestSyncMakesAllSafe(t *testing.T) {
	for _, first := range odd() {
		for _, second := range odd() {
			d := made(t, 1000)
			wantAppend(t, d, first, api.OK)
			wantAppend(t, d, second, api.OK)
			wantHolds(t, d, "", first+second)
			d.Sync()
			wantHolds(t, d, first+second, "")
		}
	}
}

// A Sync of nothing new changes nothing: on an empty disk, on one that was opened, behind another Sync, behind an Append that was refused or was of no bytes.
func TestSyncOfNothingNew(t *testing.T) {
	d := made(t, 4)
	d.Sync()
	wantHolds(t, d, "", "")
	wantAppend(t, d, "ab", api.OK)
	d.Sync()
	d.Sync()
	wantHolds(t, d, "ab", "")
	wantAppend(t, d, "", api.OK)
	d.Sync()
	wantHolds(t, d, "ab", "")
	wantAppend(t, d, "cde", api.ErrFull)
	d.Sync()
	wantHolds(t, d, "ab", "")
	wantAppend(t, d, "cd", api.OK)
	wantHolds(t, d, "ab", "cd")

	o := opened(t, "abc", 4)
	o.Sync()
	wantHolds(t, o, "abc", "")
	wantAppend(t, o, "d", api.OK)
	wantHolds(t, o, "abc", "d")

	none := made(t, 0)
	none.Sync()
	none.Sync()
	wantHolds(t, none, "", "")
}

func TestOneSyncBehindAnother(t *testing.T) {
	d := made(t, 100)
	all := ""
	for n := range 20 {
		more := "abcdefg"[:n%8]
		wantAppend(t, d, more, api.OK)
		wantHolds(t, d, all, more)
		d.Sync()
		all += more
		wantHolds(t, d, all, "")
	}
}

// To ask changes nothing.
func TestAskingChangesNothing(t *testing.T) {
	d := opened(t, "ab", 5)
	wantAppend(t, d, "cd", api.OK)
	for range 5 {
		d.Bytes()
		d.Safe()
		wantHolds(t, d, "ab", "cd")
	}
	wantFree(t, d, 1)
}

// What was told stays as it was told, whatever the disk is told later.
func TestWhatWasToldStays(t *testing.T) {
	d := made(t, 1000)
	var told, cuts []string
	all := ""
	for n := range 100 {
		told, cuts = append(told, d.Bytes()), append(cuts, d.Cut(n))
		b := string([]byte{byte(n), byte(n + 1)})
		wantAppend(t, d, b, api.OK)
		all += b
	}
	d.Sync()
	for n := range 100 {
		if told[n] != all[:2*n] || cuts[n] != all[:n] {
			t.Errorf("what was told behind %d appends is %q and %q now", n, told[n], cuts[n])
		}
	}
}
