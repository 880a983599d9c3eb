package journal_test

import (
	"encoding/binary"
	"hash/crc32"
	"slices"
	"strings"
	"testing"

	"gatehouse/api"
	"gatehouse/journal"
)

// 22.2

// forged is a record whose sums are right, whatever its head says.
func forged(first byte, version, length uint32, text string) string {
	r := []byte{first}
	r = binary.LittleEndian.AppendUint32(r, version)
	r = binary.LittleEndian.AppendUint32(r, length)
	r = binary.LittleEndian.AppendUint32(r, crc32.ChecksumIEEE(r))
	r = append(r, text...)
	return string(binary.LittleEndian.AppendUint32(r, crc32.ChecksumIEEE([]byte(text))))
}

// wantEnds asks that the reading ends where these bytes stand: alone, behind a record, ahead of one, and between two.
func wantEnds(t *testing.T, bytes string) {
	t.Helper()
	a, b := at(3, "ahead"), at(4, "behind")
	ahead, behind := framed(t, a), framed(t, b)
	wantRead(t, bytes, 0)
	wantRead(t, ahead+bytes, len(ahead), a)
	wantRead(t, bytes+behind, 0)
	wantRead(t, ahead+bytes+behind, len(ahead), a)
}

func TestReadOfRecords(t *testing.T) {
	d := dice(222)
	for n := range 60 {
		entries := d.entries(n)
		all := laid(t, entries...)
		wantRead(t, all, len(all), entries...)
	}
	for _, text := range append(odd(), longest()) {
		for _, version := range rightVersions() {
			e := at(version, text)
			all := framed(t, e)
			wantRead(t, all, len(all), e)
			wantRead(t, all+all, 2*len(all), e, e)
		}
	}
}

// The order and the size of the versions are not asked.
func TestVersionsInAnyOrder(t *testing.T) {
	entries := []api.Entry{at(7, "x"), at(3, "y"), at(3, "y"), at(api.MaxVersion, ""), at(1, "")}
	all := laid(t, entries...)
	wantRead(t, all, len(all), entries...)
}

func TestReadOfNothing(t *testing.T) {
	wantRead(t, "", 0)
	if entries, _ := journal.Read(""); len(entries) != 0 {
		t.Errorf("entries of nothing: %s", toldAll(entries))
	}
}

// Bytes of all lengths up to a record's least one, and some more, none of which is a record.
func TestReadOfNoRecord(t *testing.T) {
	for length := 1; length < 40; length++ {
		for _, b := range []string{"\x00", "\xa5", "\xff", "a"} {
			wantRead(t, strings.Repeat(b, length), 0)
		}
		wantRead(t, "\xa5\x01\x00\x00\x00"+strings.Repeat("\x00", length), 0)
	}
}

func TestBytesBehindTheLastRecord(t *testing.T) {
	for _, more := range odd()[1:] {
		if rest, _ := journal.Read(more); len(rest) == 0 {
			wantEnds(t, more)
		}
	}
	wantEnds(t, longest())
}

// What stands behind the place where the reading ends does not count, a record neither.
func TestNothingBehindCounts(t *testing.T) {
	a, b := at(1, "x"), at(2, "yz")
	for _, between := range []string{"\x00", "\xa5", framed(t, b)[1:], framed(t, b)[:18], framed(t, b)[:17] + framed(t, b)[18:]} {
		wantRead(t, framed(t, a)+between+framed(t, b)+framed(t, a), 18, a)
		wantRead(t, between+framed(t, b)+framed(t, a), 0)
	}
}

// The forging itself is right: with what Frame would write it is Frame's record.
func TestForgedAsFramed(t *testing.T) {
	for _, version := range rightVersions() {
		for _, text := range odd() {
			wantFrame(t, at(version, text), forged(0xA5, uint32(version), uint32(len(text)), text))
		}
	}
}

func TestAHeadWithAnotherMark(t *testing.T) {
	for first := range 256 {
		r := forged(byte(first), 5, 3, "abc")
		if first == 0xA5 {
			wantRead(t, r, 20, at(5, "abc"))
			continue
		}
		wantEnds(t, r)
	}
}

func TestAHeadWithAVersionThatIsNone(t *testing.T) {
	for _, version := range []uint32{0, 1 << 31, 1<<31 + 1, 1<<32 - 2, 1<<32 - 1} {
		for _, text := range odd() {
			wantEnds(t, forged(0xA5, version, uint32(len(text)), text))
		}
	}
}

// The sums are right, and there are as many bytes as the head says, but one more than a text may have.
func TestAHeadWithALengthAboveTheGreatest(t *testing.T) {
	for _, more := range []string{"a", "\x00", longest()} {
		text := longest() + more
		wantEnds(t, forged(0xA5, 1, uint32(len(text)), text))
	}
}

// The sum of the head is right, and of the text as it stands there, but the head tells another length.
func TestAHeadWithAWrongLength(t *testing.T) {
	for _, length := range []uint32{0, 1, 2, 4, 5, 20, 65535, 65536, 65537, 1 << 20, 1<<31 - 1, 1 << 31, 1<<32 - 17, 1<<32 - 14, 1<<32 - 13, 1<<32 - 4, 1<<32 - 3, 1<<32 - 1} {
		wantEnds(t, forged(0xA5, 1, length, "abc"))
	}
}

// The text of one record may have another one in it, or the beginning of one: it is the text all the same.
func TestARecordWithinAText(t *testing.T) {
	in := framed(t, at(9, "in"))
	for _, text := range []string{in, in + in, in[:18], in[1:], "x" + in + "y"} {
		e := at(1, text)
		all := framed(t, e)
		wantRead(t, all, len(all), e)
		wantRead(t, all+in, len(all)+len(in), e, at(9, "in"))
	}
}

// The sums are those of the head and of the text, each in its place.
func TestSumsInEachOthersPlace(t *testing.T) {
	r := framed(t, at(5, "abc"))
	head, one, text, two := r[:9], r[9:13], r[13:16], r[16:]
	wantRead(t, head+one+text+two, 20, at(5, "abc"))
	zero := "\x00\x00\x00\x00"
	for _, c := range []string{head + two + text + one, head + one + text + one, head + two + text + two, head + one + text + zero, head + zero + text + two, head + zero + text + zero} {
		wantEnds(t, c)
	}
	turned := []byte(two)
	slices.Reverse(turned)
	wantEnds(t, head+one+text+string(turned))
}

// Each answer is new memory.
func TestEachAnswerIsItsOwn(t *testing.T) {
	all := laid(t, at(1, "x"), at(2, "y"), at(3, "z"))
	first, _ := journal.Read(all)
	second, _ := journal.Read(all)
	for _, list := range [][]api.Entry{first, first[:cap(first)]} {
		for n := range list {
			list[n] = at(77, "changed")
		}
	}
	if want := []api.Entry{at(1, "x"), at(2, "y"), at(3, "z")}; !slices.Equal(second, want) {
		t.Errorf("another answer was changed: %s", toldAll(second))
	}
	wantRead(t, all, len(all), at(1, "x"), at(2, "y"), at(3, "z"))
}

// As many records as a disk may hold.
func TestManyRecords(t *testing.T) {
	const many = api.MaxDisk / 17
	all := strings.Repeat(framed(t, at(1, "")), many)
	entries, read := journal.Read(all + "\xa5")
	if len(entries) != many || read != len(all) {
		t.Errorf("%d entries, %d bytes, want %d, %d", len(entries), read, many, len(all))
	}
}
