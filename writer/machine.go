package writer

import (
	"slices"

	"gatehouse/api"
	"gatehouse/delta"
	"gatehouse/valid"
)

// Machine makes a write. What it does to what is shared, its site does for it.
type Machine struct {
	*Site
	op      api.Op
	rows    []row // what is left of the table: its next step is the first one's
	looked  int   // the moment at which it found the page that counts
	next    draft
	laid    int // how many words of the next page are
	point   int
	freed   int
	outcome Outcome
}

// noMoment is what a machine tells of what has not come.
const noMoment = -1

// row is a row of the chapter's table: one step, or some.
type row struct {
	step  func(now int) bool // was it the row's last one?
	ready func() bool        // nil: its step is never in vain
}

// table is what a write does that is not refused, as the site's flaw has it. (A waiter and a grace period that have made no step have accessed nothing yet.)
func (m *Machine) table() []row {
	made := []row{{step: m.look}, {step: m.change}, {step: m.claim}, {step: m.record}, {step: m.sync}}
	shown := []row{{step: m.fill}, {step: m.swap}}
	waited := []row{waiting(m.Slots.Wait())}
	switch m.Flaw {
	case api.FlawEarly:
		slices.Reverse(shown)
	case api.FlawNoWait:
		waited = nil
	}
	return slices.Concat(m.beginning(), made, shown, waited, []row{{step: m.free}}, m.end())
}

func (m *Machine) beginning() []row {
	if m.Flaw == api.FlawNoLock {
		return nil
	}
	return []row{waiting(m.Lock.Enter())}
}

func (m *Machine) end() []row {
	if m.Flaw == api.FlawNoLock {
		return nil
	}
	return []row{{step: m.leave}}
}

// turn is what may look in vain, again and again: a waiter, a grace period.
type turn interface {
	Step() bool
	Ready() bool
}

func waiting(t turn) row {
	return row{step: func(int) bool { return t.Step() }, ready: t.Ready}
}

// refuse leaves of all rows but these and the end. None of them has made a step, so it answers what a step does that is not its row's last one.
func (m *Machine) refuse(code api.Errno, rows ...row) bool {
	m.outcome.Code, m.point = code, m.looked
	m.rows = slices.Concat(rows, m.end())
	return false
}

// look counts as it comes, refused or not; so does the load of the version.
func (m *Machine) look(now int) bool {
	m.looked = now
	m.outcome.Old, _ = m.Memory.Load(m.Current)
	return true
}

func (m *Machine) change(int) bool {
	version, _ := m.Memory.Load(m.outcome.Old)
	if e := m.prepare(version); e != api.OK {
		return m.refuse(e)
	}
	return true
}

// prepare makes the next draft, behind a version.
func (m *Machine) prepare(version int) api.Errno {
	policy, e := changed(m.Book[m.outcome.Old], m.op)
	if e != api.OK {
		return e
	}
	if version < 1 || version >= api.MaxVersion {
		return api.ErrWorn
	}
	m.next, e = m.draw(version+1, policy)
	return e
}

// changed is what an operation makes of a policy.
func changed(p api.Policy, op api.Op) (api.Policy, api.Errno) {
	switch op.Kind {
	case api.OpUpdate:
		policy, err := valid.Load(op.Text)
		code, _, _, _ := valid.Tell(err)
		return policy, code
	case api.OpApply:
		policy, _, e := delta.Apply(p, op.Deltas)
		return policy, e
	case api.OpRevoke:
		return delta.Revoke(p, op.Triple)
	}
	return api.Policy{}, api.ErrArg
}

func (m *Machine) claim(int) bool {
	addr, e := m.take(len(m.next.words))
	if e != api.OK {
		return m.refuse(e)
	}
	m.next.addr = addr
	return true
}

func (m *Machine) record(int) bool {
	if e := m.write(m.next); e != api.OK {
		return m.refuse(e, row{step: m.drop})
	}
	return true
}

// drop gives the piece back that the next page will not lie in.
func (m *Machine) drop(int) bool {
	m.give(m.next.addr)
	return true
}

func (m *Machine) sync(int) bool {
	m.secure()
	return true
}

func (m *Machine) fill(int) bool {
	m.lay(m.next, m.laid)
	m.laid++
	return m.laid == len(m.next.words)
}

func (m *Machine) swap(now int) bool {
	m.publish(m.next)
	m.point = now
	m.outcome.Version, m.outcome.Page, m.outcome.Size = m.next.version, m.next.addr, len(m.next.words)
	return true
}

func (m *Machine) free(now int) bool {
	m.give(m.outcome.Old)
	m.freed = now
	return true
}

// leave is the last step; where it is refused, it was made all the same.
func (m *Machine) leave(int) bool {
	m.Lock.Leave()
	return true
}
