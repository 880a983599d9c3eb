package disk_test

import (
	"math"
	"strings"
	"testing"

	"gatehouse/api"
)

// 21.4

const alphabet = "abcdefghijklmnopqrstuvwxyz"

// Each number of bytes that are safe, by a Sync or from the start, and of bytes that are not.
func TestCutOfEachNumber(t *testing.T) {
	for safe := range 6 {
		for loose := range 6 {
			d := made(t, 26)
			wantAppend(t, d, alphabet[:safe], api.OK)
			d.Sync()
			o := opened(t, alphabet[:safe], 26)
			wantAppend(t, d, alphabet[safe:safe+loose], api.OK)
			wantAppend(t, o, alphabet[safe:safe+loose], api.OK)
			for keep := -8; keep <= 8; keep++ {
				kept := min(max(keep, 0), loose)
				wantCut(t, d, keep, alphabet[:safe+kept])
				wantCut(t, o, keep, alphabet[:safe+kept])
			}
		}
	}
}

func TestCutOfTheEdges(t *testing.T) {
	for _, safe := range []int{0, 1, 2, 13, 25} {
		for _, loose := range []int{0, 1, 2, 13} {
			if safe+loose > 26 {
				continue
			}
			d := opened(t, alphabet[:safe], 26)
			wantAppend(t, d, alphabet[safe:safe+loose], api.OK)
			for _, keep := range keeps(loose) {
				want := alphabet[:safe+loose]
				if keep < 0 {
					want = alphabet[:safe]
				} else if keep < loose {
					want = alphabet[:safe+keep]
				}
				wantCut(t, d, keep, want)
			}
		}
	}
}

// Of several appends that are not safe a cut may keep any beginning, through the middle of one.
func TestCutThroughAppends(t *testing.T) {
	d := made(t, 100)
	wantAppend(t, d, "abc", api.OK)
	d.Sync()
	for _, b := range []string{"de", "", "fgh", "i", "jklm"} {
		wantAppend(t, d, b, api.OK)
	}
	for keep := range 12 {
		wantCut(t, d, keep, alphabet[:min(3+keep, 13)])
	}
}

// The disk itself goes on as before, however it was cut.
func TestCutChangesNothing(t *testing.T) {
	for _, keep := range keeps(3) {
		d := opened(t, "ab", 8)
		wantAppend(t, d, "cde", api.OK)
		d.Cut(keep)
		wantHolds(t, d, "ab", "cde")
		wantAppend(t, d, "f", api.OK)
		d.Cut(keep)
		wantHolds(t, d, "ab", "cdef")
		d.Sync()
		d.Cut(keep)
		wantHolds(t, d, "abcdef", "")
		wantFree(t, d, 2)
		d.Cut(keep)
		wantHolds(t, d, "abcdef", "ff")
	}
}

// Bytes that are no characters are cut between any two of them.
func TestCutThroughCharacters(t *testing.T) {
	for _, text := range odd() {
		for safe := range len(text) + 1 {
			d := opened(t, text[:safe], len(text))
			wantAppend(t, d, text[safe:], api.OK)
			for keep := range len(text) - safe + 2 {
				wantCut(t, d, keep, text[:min(safe+keep, len(text))])
			}
		}
	}
}

func TestCutOfTheGreatestDisk(t *testing.T) {
	d := opened(t, strings.Repeat("s", 1048000), 1048576)
	wantAppend(t, d, strings.Repeat("n", 576), api.OK)
	for _, keep := range []int{math.MinInt, -1, 0, 1, 575, 576, 577, 1048575, 1048576, math.MaxInt} {
		wantCut(t, d, keep, strings.Repeat("s", 1048000)+strings.Repeat("n", min(max(keep, 0), 576)))
	}
}
