package journal

import (
	"strings"

	"gatehouse/api"
)

// A record's bytes: a mark, the version and the text's length are the head; behind it its sum, the text and the text's sum.
const (
	mark      = 0xA5
	versionAt = 1
	lengthAt  = 5
	headSize  = 9
	textAt    = 13
	extra     = 17 // what a record has more than its text
)

// Frame is a record's bytes.
func Frame(e api.Entry) (string, api.Errno) {
	if e.Version < 1 || e.Version > api.MaxVersion {
		return "", api.ErrRange
	}
	if len(e.Text) > api.MaxText {
		return "", api.ErrLong
	}
	return string(recordOf(e)), api.OK
}

// recordOf is the record of a right entry.
func recordOf(e api.Entry) []byte {
	text := []byte(e.Text)
	r := make([]byte, 0, extra+len(text))
	r = append(r, mark)
	r = appendNumber(r, uint32(e.Version))
	r = appendNumber(r, uint32(len(text)))
	r = appendNumber(r, sum(r))
	r = append(r, text...)
	return appendNumber(r, sum(text))
}

// Read are the records at the beginning of some bytes, and how many bytes they are.
func Read(bytes string) ([]api.Entry, int) {
	var entries []api.Entry
	at := 0
	for {
		e, ok := first(bytes[at:])
		if !ok {
			return entries, at
		}
		entries = append(entries, e)
		at += extra + len(e.Text)
	}
}

// first is the entry whose record the bytes begin with. The head says which entry that would be; its own record is held against the bytes, so that nothing that Frame would not write is taken.
func first(bytes string) (api.Entry, bool) {
	if len(bytes) < extra {
		return api.Entry{}, false
	}
	head := []byte(bytes[:headSize])
	length := int(number(head[lengthAt:]))
	if length > len(bytes)-extra {
		return api.Entry{}, false
	}
	text := []byte(bytes[textAt : textAt+length])
	e := api.Entry{Version: int(number(head[versionAt:])), Text: string(text)}
	record, code := Frame(e)
	if code != api.OK || !strings.HasPrefix(bytes, record) {
		return api.Entry{}, false
	}
	return e, true
}

// appendNumber puts a number of four bytes behind some bytes.
func appendNumber(b []byte, n uint32) []byte {
	return append(b, byte(n), byte(n>>8), byte(n>>16), byte(n>>24))
}

// number is the one that the first four bytes are.
func number(b []byte) uint32 {
	return uint32(b[0]) | uint32(b[1])<<8 | uint32(b[2])<<16 | uint32(b[3])<<24
}

// sum is the CRC-32 of Ethernet frames, bit by bit.
func sum(bytes []byte) uint32 {
	r := ^uint32(0)
	for _, b := range bytes {
		r ^= uint32(b)
		for range 8 {
			out := r & 1
			r >>= 1
			if out == 1 {
				r ^= 0xEDB88320
			}
		}
	}
	return ^r
}
