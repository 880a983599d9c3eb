package disk_test

import (
	"slices"
	"testing"

	"gatehouse/api"
	"gatehouse/disk"
)

// A second reckoning: a disk is a list of bytes, each with a mark of its own that says whether it is safe; nothing is counted, all is told by going over the list.

type slowByte struct {
	value byte
	safe  bool
}

type slow struct {
	room int
	list []slowByte
}

func slowOf(bytes string, room int) *slow {
	s := &slow{room: room}
	for n := range len(bytes) {
		s.list = append(s.list, slowByte{bytes[n], true})
	}
	return s
}

func (s *slow) append(b string) api.Errno {
	longer := slices.Clone(s.list)
	for n := range len(b) {
		if len(longer) == s.room {
			return api.ErrFull
		}
		longer = append(longer, slowByte{b[n], false})
	}
	s.list = longer
	return api.OK
}

func (s *slow) sync() {
	for n := range s.list {
		s.list[n].safe = true
	}
}

func (s *slow) safe() int {
	n := 0
	for _, b := range s.list {
		if b.safe {
			n++
		}
	}
	return n
}

func (s *slow) cut(keep int) string {
	var left []byte
	for _, b := range s.list {
		if !b.safe && keep <= 0 {
			break
		}
		if !b.safe {
			keep--
		}
		left = append(left, b.value)
	}
	return string(left)
}

func (s *slow) bytes() string {
	var all []byte
	for _, b := range s.list {
		all = append(all, b.value)
	}
	return string(all)
}

// both are a disk and the second reckoning beside it.
type both struct {
	disk *disk.Disk
	slow *slow
}

func bothOf(t *testing.T, bytes string, room int) *both {
	t.Helper()
	return &both{opened(t, bytes, room), slowOf(bytes, room)}
}

func (b *both) append(t *testing.T, text string) api.Errno {
	t.Helper()
	e := b.slow.append(text)
	wantAppend(t, b.disk, text, e)
	return e
}

func (b *both) sync() {
	b.disk.Sync()
	b.slow.sync()
}

// cut is what a cut leaves, and a disk that is opened with it.
func (b *both) cut(t *testing.T, keep, room int) *both {
	t.Helper()
	left := b.slow.cut(keep)
	wantCut(t, b.disk, keep, left)
	return bothOf(t, b.disk.Cut(keep), max(room, len(left)))
}

func (b *both) look(t *testing.T) {
	t.Helper()
	if got, want := b.disk.Bytes(), b.slow.bytes(); got != want {
		t.Errorf("Bytes() = %q, want %q", got, want)
	}
	if got, want := b.disk.Safe(), b.slow.safe(); got != want {
		t.Errorf("Safe() = %d, want %d", got, want)
	}
}

// each goes over all rows of so many calls, each of so many kinds.
func each(calls, kinds int, do func([]int)) {
	row := make([]int, calls)
	for {
		do(row)
		n := 0
		for n < calls && row[n] == kinds-1 {
			row[n] = 0
			n++
		}
		if n == calls {
			return
		}
		row[n]++
	}
}

// All short rows: appends of 0 to 3 bytes, Syncs, cuts with which it goes on, in rooms in which some is refused.
func TestAllShortRows(t *testing.T) {
	const kinds = 9
	for _, c := range []struct{ first, room, calls int }{{0, 0, 4}, {0, 3, 5}, {2, 5, 5}, {1, 1, 4}, {3, 20, 4}} {
		each(c.calls, kinds, func(calls []int) {
			b := bothOf(t, alphabet[:c.first], c.room)
			for n, call := range calls {
				switch {
				case call < 4:
					b.append(t, alphabet[n*4:n*4+call])
				case call == 4:
					b.sync()
				default:
					b = b.cut(t, call-6, c.room)
				}
				b.look(t)
			}
			for keep := -1; keep <= 5; keep++ {
				wantCut(t, b.disk, keep, b.slow.cut(keep))
			}
			if t.Failed() {
				t.Fatalf("%d bytes, room %d, calls %v", c.first, c.room, calls)
			}
		})
	}
}

// Long rows by the dice, on some disks side by side, of which now and then one is lost, and opened again with what a cut left of it or of another one.
func TestLongRows(t *testing.T) {
	d := dice(216)
	var taken, refused, synced, cut, torn int
	for row := range 200 {
		room := []int{0, 1, 5, 40, 200, 1000}[row%6]
		disks := make([]*both, 1+d.throw(4))
		for n := range disks {
			disks[n] = bothOf(t, d.text(d.throw(room+1)/2), room)
		}
		for call := range 200 {
			b := disks[d.throw(len(disks))]
			switch d.throw(12) {
			case 0:
				b.sync()
				synced++
			case 1:
				loose := len(b.slow.list) - b.slow.safe()
				keep := keeps(loose)[d.throw(len(keeps(0)))]
				if d.throw(2) == 0 {
					keep = d.throw(loose + 2)
				}
				if keep > 0 && keep < loose {
					torn++
				}
				disks[d.throw(len(disks))] = b.cut(t, keep, room)
				cut++
			case 2:
				b.append(t, "")
			default:
				if b.append(t, d.text(d.throw(2+room/8))) == api.OK {
					taken++
				} else {
					refused++
				}
			}
			for _, b := range disks {
				b.look(t)
			}
			if t.Failed() {
				t.Fatalf("row %d: %d disks of room %d, behind %d calls", row, len(disks), room, call)
			}
		}
	}
	if taken < 5000 || refused < 5000 || synced < 1000 || cut < 1000 || torn < 200 {
		t.Errorf("%d appends taken, %d refused, %d synced, %d cut, %d torn: too few to tell", taken, refused, synced, cut, torn)
	}
}

// What is answered hangs on what the disk was told alone: the same row gives the same again.
func TestTheSameRowAgain(t *testing.T) {
	row := func() []string {
		d := dice(4)
		a := made(t, 300)
		var told []string
		for range 200 {
			switch d.throw(4) {
			case 0:
				a.Sync()
			default:
				a.Append(d.text(d.throw(6)))
			}
			told = append(told, a.Bytes(), a.Cut(d.throw(9)))
		}
		return told
	}
	want := row()
	for range 5 {
		if !slices.Equal(row(), want) {
			t.Fatal("the same row tells something else")
		}
	}
}
