package store

import (
	"strings"

	"gatehouse/api"
	"gatehouse/arena"
	"gatehouse/avc"
	"gatehouse/cells"
	"gatehouse/disk"
	"gatehouse/epoch"
	"gatehouse/journal"
	"gatehouse/lock"
	"gatehouse/names"
	"gatehouse/reader"
	"gatehouse/writer"
)

// The memory's fixed words (DOC.md, 'The machine'). Behind the slots are their owners, and behind these the arena.
const (
	currentAt = 0
	epochAt   = 1
	ticketAt  = 2
	servedAt  = 3
	slotsAt   = 4
)

func arenaAt(slots int) int { return slotsAt + 2*slots }

// mayBe says whether a configuration may be.
func mayBe(c api.Config) bool {
	return within(c.Slots, 1, api.MaxSlots) &&
		within(c.Sets, 0, api.MaxSets) &&
		(c.Sets == 0 || within(c.Ways, 1, api.MaxWays)) &&
		within(c.Words, arenaAt(c.Slots)+1, api.MaxWords) &&
		within(c.First, 1, api.MaxVersion) &&
		within(c.Disk, 0, api.MaxDisk) &&
		within(c.Flaw, api.FlawNone, api.FlawEarlyDone)
}

func within(n, least, most int) bool { return n >= least && n <= most }

// parts are what a store is made of.
type parts struct {
	memory  *cells.Memory
	disk    *disk.Disk
	readers *reader.Site
	writers *writer.Site
	slots   int
	sets    int // of each cache; 0: there are none
	ways    int
	laid    int // how much of the memory's trace is of no moment: it comes ahead of the first one
}

// partsOf are the parts of a configuration that may be: none of them is refused.
func partsOf(c api.Config) parts {
	memory, _ := cells.New(c.Words)
	memory.Store(epochAt, 1)
	slots, _ := epoch.New(memory, epochAt, slotsAt, c.Slots)
	turns, _ := lock.New(memory, ticketAt, servedAt)
	pieces, _ := arena.New(memory, arenaAt(c.Slots))
	bytes, _ := disk.New(c.Disk)
	records, _, _ := journal.Open(bytes)
	return parts{
		memory:  memory,
		disk:    bytes,
		readers: &reader.Site{Memory: memory, Slots: slots, Current: currentAt, Flaw: c.Flaw},
		writers: &writer.Site{
			Memory:  memory,
			Lock:    turns,
			Slots:   slots,
			Arena:   pieces,
			Journal: records,
			Index:   names.NewIndex[string](),
			Book:    make(map[int]api.Policy),
			Current: currentAt,
			Flaw:    c.Flaw,
		},
		slots: c.Slots,
		sets:  c.Sets,
		ways:  c.Ways,
	}
}

// layFirst lays the first page, at no moment.
func (p *parts) layFirst(version int, policy api.Policy) (api.Version, api.Errno) {
	addr, e := writer.Begin(p.writers, version, policy)
	if e != api.OK {
		return api.Version{}, e
	}
	p.laid = len(p.memory.Trace())
	first := api.Version{Number: version, Addr: addr, Point: noMoment, Gone: noMoment, Policy: p.writers.Book[addr]}
	for _, piece := range p.writers.Arena.Blocks() {
		if piece.Addr == addr {
			first.Size = piece.Size
		}
	}
	return first, api.OK
}

func (p *parts) ownerAt(slot int) int { return slotsAt + p.slots + slot }

// live is how many pieces of the arena are out.
func (p *parts) live() int { return p.writers.Arena.Live() }

// idle is a moment at which nothing is accessed. It is noted, so that each moment has its place in the memory's trace.
func (p *parts) idle() { p.memory.Note(api.Access{}) }

// trace has each moment's access.
func (p *parts) trace() []api.Access { return p.memory.Trace()[p.laid:] }

// numbered are a triple's symbols; a name without a number gets one.
func (p *parts) numbered(t api.Triple) [3]int {
	x := p.writers.Index
	return [3]int{x.Of(t.Subject), x.Of(t.Object), x.Of(t.Action)}
}

func (p *parts) symbols() []string {
	var l []string
	for _, name := range p.writers.Index.All() {
		l = append(l, strings.Clone(name))
	}
	return l
}

// cache is a new one, nil where there are none.
func (p *parts) cache() *avc.Cache {
	if p.sets == 0 {
		return nil
	}
	c, _ := avc.New(p.sets, p.ways)
	return c
}
