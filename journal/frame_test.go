package journal_test

import (
	"encoding/binary"
	"hash/crc32"
	"math"
	"strings"
	"testing"

	"gatehouse/api"
	"gatehouse/journal"
)

// 22.1

// wantParts asks for each part of a record by itself.
func wantParts(t *testing.T, e api.Entry) {
	t.Helper()
	r := []byte(framed(t, e))
	if len(r) != len(e.Text)+17 {
		t.Fatalf("the record of %s has %d bytes, want %d", told(e), len(r), len(e.Text)+17)
	}
	for _, part := range []struct {
		what      string
		got, want uint32
	}{
		{"mark", uint32(r[0]), 0xA5},
		{"version", binary.LittleEndian.Uint32(r[1:]), uint32(e.Version)},
		{"length", binary.LittleEndian.Uint32(r[5:]), uint32(len(e.Text))},
		{"sum of the head", binary.LittleEndian.Uint32(r[9:]), crc32.ChecksumIEEE(r[:9])},
		{"sum of the text", binary.LittleEndian.Uint32(r[len(r)-4:]), crc32.ChecksumIEEE([]byte(e.Text))},
	} {
		if part.got != part.want {
			t.Errorf("the record of %s: %s %#x, want %#x", told(e), part.what, part.got, part.want)
		}
	}
	if string(r[13:len(r)-4]) != e.Text {
		t.Errorf("the record of %s has another text: %s", told(e), short(string(r)))
	}
}

// The text's sum is the record's last four bytes.
func TestTheSumOfATextByHand(t *testing.T) {
	for _, c := range []struct{ text, want string }{
		{"", "\x00\x00\x00\x00"},
		{"123456789", "\x26\x39\xf4\xcb"},
		{"\x00", "\x8d\xef\x02\xd2"},
		{"\xff", "\x00\x00\x00\xff"},
		{"\x00\x00\x00\x00", "\x1c\xdf\x44\x21"},
		{"\xff\xff\xff\xff", "\xff\xff\xff\xff"},
		{"a", "\x43\xbe\xb7\xe8"},
	} {
		r := framed(t, at(1, c.text))
		if got := r[len(r)-4:]; got != c.want {
			t.Errorf("the sum of %q: % x, want % x", c.text, got, c.want)
		}
	}
}

func TestThePartsOfARecord(t *testing.T) {
	for _, version := range rightVersions() {
		for _, text := range odd() {
			wantParts(t, at(version, text))
		}
	}
}

func TestTheSumOfEachByte(t *testing.T) {
	for first := range 256 {
		wantParts(t, at(1, string([]byte{byte(first)})))
		for second := range 256 {
			wantParts(t, at(1, string([]byte{byte(first), byte(second)})))
		}
	}
}

// The texts are as long as may be, and as one byte of their length can tell, and around these.
func TestRecordsOfEveryLength(t *testing.T) {
	d := dice(221)
	for length := range 600 {
		wantParts(t, at(d.version(), d.text(length)))
	}
	for _, length := range []int{4095, 4096, 32767, 32768, 65279, 65280, api.MaxText - 1, api.MaxText} {
		wantParts(t, at(1, d.text(length)))
		wantParts(t, at(api.MaxVersion, strings.Repeat("\x00", length)))
	}
}

func TestAVersionThatIsNone(t *testing.T) {
	for _, version := range wrongVersions() {
		for _, text := range append(odd(), longest()) {
			wantNoFrame(t, at(version, text), api.ErrRange)
		}
	}
}

func TestATextThatIsTooLong(t *testing.T) {
	for _, more := range []string{"a", "\x00", "\xff", strings.Repeat("a", api.MaxText), strings.Repeat("b", 1<<20)} {
		for _, version := range rightVersions() {
			wantNoFrame(t, at(version, longest()+more), api.ErrLong)
		}
	}
}

// The limit is of bytes, not of characters.
func TestBytesAreCounted(t *testing.T) {
	wantParts(t, at(1, strings.Repeat("ä", api.MaxText/2)))
	wantNoFrame(t, at(1, strings.Repeat("ä", api.MaxText/2)+"a"), api.ErrLong)
	wantNoFrame(t, at(1, strings.Repeat("ä", api.MaxText)), api.ErrLong)
}

func TestBothWrongAtOnce(t *testing.T) {
	for _, version := range wrongVersions() {
		wantNoFrame(t, at(version, longest()+"a"), api.ErrRange)
	}
}

func TestTheSameEntryHasTheSameRecord(t *testing.T) {
	want := framed(t, at(5, "abc"))
	journal.Frame(at(math.MaxInt, longest()))
	framed(t, at(6, "abd"))
	wantFrame(t, at(5, "abc"), want)
	wantFrame(t, at(5, strings.Clone("abc")), want)
}
