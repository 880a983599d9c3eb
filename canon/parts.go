package canon

import (
	"strings"

	"gatehouse/api"
	"gatehouse/names"
)

// A part of a declaration's line writes itself, or tells why it can't; what it has written by then is of no use.
type part interface {
	write(b *strings.Builder) api.Errno
}

type (
	fixed  string // a keyword, or a sign that stands apart
	mark   string // a sign that stands right behind what is ahead of it
	name   string
	number float64
	list   []api.Word
)

func (f fixed) write(b *strings.Builder) api.Errno {
	b.WriteString(string(f))
	return api.OK
}

func (m mark) write(b *strings.Builder) api.Errno {
	b.WriteString(string(m))
	return api.OK
}

func (n name) write(b *strings.Builder) api.Errno {
	s, ok := names.Written(string(n))
	if !ok {
		return api.ErrName
	}
	b.WriteString(s)
	return api.OK
}

func (n number) write(b *strings.Builder) api.Errno {
	s, ok := Number(float64(n))
	if !ok {
		return api.ErrNumber
	}
	b.WriteString(s)
	return api.OK
}

func (l list) write(b *strings.Builder) api.Errno {
	parts := make([]part, 0, 2*len(l))
	for i, w := range l {
		if i > 0 {
			parts = append(parts, mark(","))
		}
		parts = append(parts, name(w.Text))
	}
	return writeParts(b, parts)
}

func writeParts(b *strings.Builder, parts []part) api.Errno {
	for i, p := range parts {
		if i > 0 && standsApart(p) {
			b.WriteByte(' ')
		}
		if e := p.write(b); e != api.OK {
			return e
		}
	}
	return api.OK
}

// Only a blank ahead is ever asked for: what stands behind a mark asks for its own.
func standsApart(p part) bool {
	switch p.(type) {
	case mark:
		return false
	default:
		return true
	}
}
