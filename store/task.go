package store

import (
	"gatehouse/api"
	"gatehouse/avc"
	"gatehouse/own"
	"gatehouse/reader"
	"gatehouse/sched"
	"gatehouse/writer"
)

// task is a list of operations, one of which may be in progress.
type task struct {
	number  int
	ops     []api.Op
	next    int           // how many of them have made their last step
	machine sched.Machine // of the one that goes on; nil: its first step has not come
	event   int           // its place among the events
	slot    int           // noSlot: it has none
	cache   *avc.Cache    // nil: it has none
}

const noSlot = -1

func tooMany(tasks [][]api.Op) bool {
	for _, ops := range tasks {
		if len(ops) > api.MaxOps {
			return true
		}
	}
	return len(tasks) > api.MaxTasks
}

// join puts a task behind the others. The names that it will ask for have their numbers from now on.
func (s *Store) join(ops []api.Op) {
	t := &task{number: len(s.tasks), slot: noSlot}
	for _, op := range ops {
		op = own.Op(op)
		if op.Kind == api.OpCheck {
			s.numbered(op.Triple)
		}
		t.ops = append(t.ops, op)
	}
	s.tasks = append(s.tasks, t)
}

func (t *task) done() bool { return t.next == len(t.ops) }

// ready is asked of a task that is not done. Nobody but a writer looks in vain, and its first step is no look.
func (t *task) ready() bool {
	switch m := t.machine.(type) {
	case *writer.Machine:
		return m.Ready()
	}
	return true
}

// step is the next step of a task that is not done.
func (s *Store) step(t *task) {
	if t.machine == nil {
		s.start(t)
	}
	last := t.machine.Step(s.now())
	s.look(t, last)
	if last {
		t.machine = nil
		t.next++
	}
}

// start begins a task's next operation.
func (s *Store) start(t *task) {
	op := t.ops[t.next]
	begin := s.way(op.Kind)
	t.machine = begin(t, op)
	t.event = s.begins(t.number, t.next, op.Kind)
}

// way is how an operation of a kind is begun.
func (s *Store) way(kind int8) func(t *task, op api.Op) sched.Machine {
	switch kind {
	case api.OpRegister:
		return s.register
	case api.OpUnregister:
		return s.unregister
	case api.OpCheck:
		return s.check
	case api.OpVersion:
		return s.version
	case api.OpUpdate, api.OpApply, api.OpRevoke:
		return s.write
	}
	return s.refuse
}

func (s *Store) register(t *task, _ api.Op) sched.Machine {
	if t.slot != noSlot {
		return &refusal{&s.parts, api.ErrHeld}
	}
	return &claim{memory: s.memory, owners: s.ownerAt(0), slots: s.slots, name: t.number + 1}
}

func (s *Store) unregister(t *task, _ api.Op) sched.Machine {
	if t.slot == noSlot {
		return &refusal{&s.parts, api.ErrSlot}
	}
	return &release{memory: s.memory, owner: s.ownerAt(t.slot)}
}

func (s *Store) check(t *task, op api.Op) sched.Machine {
	if t.slot == noSlot {
		return &refusal{&s.parts, api.ErrSlot}
	}
	symbols := s.numbered(op.Triple)
	return reader.Check(s.readers, t.slot, t.cache, symbols[0], symbols[1], symbols[2])
}

func (s *Store) version(t *task, _ api.Op) sched.Machine {
	if t.slot == noSlot {
		return &refusal{&s.parts, api.ErrSlot}
	}
	return reader.Version(s.readers, t.slot)
}

func (s *Store) write(_ *task, op api.Op) sched.Machine { return writer.New(s.writers, op) }

func (s *Store) refuse(*task, api.Op) sched.Machine { return &refusal{&s.parts, api.ErrArg} }

// stats are the counts of each slot's cache.
func (s *Store) stats() []api.Stats {
	l := make([]api.Stats, s.slots)
	for _, t := range s.tasks {
		if t.cache != nil {
			l[t.slot] = t.cache.Stats()
		}
	}
	return l
}
