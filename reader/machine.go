package reader

import (
	"gatehouse/api"
	"gatehouse/epoch"
)

// Machine makes a check, or asks the version.
type Machine struct {
	site    Site
	slot    int
	section *epoch.Section
	next    func(now int) // its next step; nil behind the last one
	marked  func(now int) // the step behind the section's two
	looked  func(now int) // the step behind the one that looks which page is the current one
	known   func()        // what is done with the version, at the end of the step that loads it
	point   int
	answer  Answer
}

// noPoint is what a machine tells that has not looked.
const noPoint = -1

// enter is a machine that has made no step, up to the version; nil, if there is no such slot. Where there is no site there is none either: no call panics. The site is copied, as its machine goes by one site from its first step to its last.
func enter(site *Site, slot int) *Machine {
	if site == nil || site.Memory == nil || site.Slots == nil {
		return nil
	}
	section, e := site.Slots.Enter(slot)
	if e != api.OK {
		return nil
	}
	m := &Machine{site: *site, slot: slot, section: section, point: noPoint}
	m.next, m.marked, m.looked = m.mark, m.look, m.loadVersion
	if m.site.Flaw == api.FlawLate {
		m.next, m.marked, m.looked = m.look, m.loadVersion, m.mark
	}
	return m
}

// mark is each of the section's two steps.
func (m *Machine) mark(int) {
	if m.section.Step() {
		m.next = m.marked
	}
}

// look takes the moment ahead of the load: a refused one is looked at, too.
func (m *Machine) look(now int) {
	m.point = now
	if page, ok := m.load(m.site.Current); ok {
		m.answer.Page = page
		m.next = m.looked
	}
}

func (m *Machine) loadVersion(int) {
	if version, ok := m.load(m.answer.Page); ok {
		m.answer.Version = version
		m.known()
	}
}

// leave is the last step; where it is refused, it was made all the same.
func (m *Machine) leave(int) {
	m.site.Slots.Leave(m.slot)
	m.next = nil
}

func (m *Machine) toEnd() { m.next = m.leave }

// breaks gives up: what was read made no sense.
func (m *Machine) breaks() {
	m.answer.Broken = true
	m.toEnd()
}

// load is a word; a load that is refused breaks the machine, and brings nothing.
func (m *Machine) load(addr int) (int, bool) {
	word, e := m.site.Memory.Load(addr)
	if e != api.OK {
		m.breaks()
		return 0, false
	}
	return word, true
}
