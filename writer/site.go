package writer

import (
	"gatehouse/api"
	"gatehouse/canon"
	"gatehouse/graph"
	"gatehouse/page"
)

// draft is a policy on its way to be the one that counts.
type draft struct {
	version int
	policy  api.Policy
	words   []int // its page's
	addr    int   // where they lie, once a piece was taken
}

// whole says whether all parts are there. A book without pages may be nil, like any map: publish makes one.
func (s *Site) whole() bool {
	return s != nil && s.Memory != nil && s.Lock != nil && s.Slots != nil && s.Arena != nil && s.Journal != nil && s.Index != nil
}

// draw makes a policy's page, which has no place yet.
func (s *Site) draw(version int, p api.Policy) (draft, api.Errno) {
	words, e := page.Lay(version, graph.Compile(p), s.Index)
	if e != api.OK {
		return draft{}, e
	}
	return draft{version: version, policy: p, words: words}, api.OK
}

// take is a piece of the arena; like all that no word of the memory shows, it is noted in the trace, refused or not.
func (s *Site) take(n int) (int, api.Errno) {
	addr, e := s.Arena.Take(n)
	s.Memory.Note(api.Access{Kind: api.AccessTake, Addr: addr, Value: n, Good: e == api.OK})
	return addr, e
}

func (s *Site) give(addr int) {
	e := s.Arena.Give(addr)
	s.Memory.Note(api.Access{Kind: api.AccessFree, Addr: addr, Good: e == api.OK})
}

// write puts a draft's record behind the others. (A right policy has a text.)
func (s *Site) write(d draft) api.Errno {
	text, _ := canon.Text(d.policy)
	e := s.Journal.Append(api.Entry{Version: d.version, Text: text})
	s.Memory.Note(api.Access{Kind: api.AccessAppend, Value: d.version, Good: e == api.OK})
	return e
}

func (s *Site) secure() {
	s.Journal.Sync()
	s.Memory.Note(api.Access{Kind: api.AccessSync, Good: true})
}

// lay stores one word of a draft's page.
func (s *Site) lay(d draft, i int) { s.Memory.Store(d.addr+i, d.words[i]) }

// publish makes a draft's page the one that counts.
func (s *Site) publish(d draft) {
	s.Memory.Store(s.Current, d.addr)
	if s.Book == nil {
		s.Book = make(map[int]api.Policy)
	}
	s.Book[d.addr] = d.policy
}
