package explore

import (
	"strings"

	"gatehouse/api"
	"gatehouse/own"
	"gatehouse/store"
)

// kept are a configuration and tasks that nobody else has: a walk begins them anew with each run.
func kept(c api.Config, tasks [][]api.Op) (api.Config, [][]api.Op) {
	c.Text = strings.Clone(c.Text)
	copies := make([][]api.Op, len(tasks))
	for task, ops := range tasks {
		for _, op := range ops {
			copies[task] = append(copies[task], own.Op(op))
		}
	}
	return c, copies
}

// walk goes from run to run, in their order. A store never goes back, so each run has a new one, which is picked again as far as the run goes along with the one ahead of it.
type walk struct {
	c     api.Config
	tasks [][]api.Op
	store *store.Store
	turns []turn
	left  int // how many switches may come yet
}

// turn is a moment of a run.
type turn struct {
	task  int // that is picked
	other int // that is picked in its place in the next run that goes along with this one up to here; or nobody
	left  int // how many switches might come from here on
}

const nobody = -1

// begin makes the first run.
func (w *walk) begin() api.Errno {
	s, e := store.New(w.c, w.tasks)
	if e != api.OK {
		return e
	}
	w.store = s
	w.goOn(0)
	return api.OK
}

// next makes the next run, if there is one.
func (w *walk) next() bool {
	for at := len(w.turns) - 1; at >= 0; at-- {
		if t := w.turns[at]; t.other != nobody {
			w.goBack(at)
			w.goOn(t.other)
			return true
		}
	}
	return false
}

// goBack is at a moment again.
func (w *walk) goBack(at int) {
	w.left = w.turns[at].left
	w.turns = w.turns[:at]
	w.store, _ = store.New(w.c, w.tasks) // what was not refused once is not refused again
	for _, t := range w.turns {
		w.store.Pick(t.task)
	}
}

// goOn makes the first run that begins with what is picked so far, and then a task from this one on.
func (w *walk) goOn(from int) {
	for task := w.first(from); task != nobody; task = w.first(0) {
		w.pick(task)
	}
}

func (w *walk) pick(task int) {
	t := turn{task: task, other: w.first(task + 1), left: w.left}
	if last := w.last(); task != last && w.store.Ready(last) {
		w.left--
	}
	w.turns = append(w.turns, t)
	w.store.Pick(task)
}

// first is the first task, from this one on, that may be picked now.
func (w *walk) first(from int) int {
	if last := w.last(); w.left == 0 && w.store.Ready(last) {
		if last < from {
			return nobody
		}
		return last
	}
	for task := from; task < len(w.tasks); task++ {
		if w.store.Ready(task) {
			return task
		}
	}
	return nobody
}

// last is the task that was picked last. Nobody is never ready.
func (w *walk) last() int {
	if len(w.turns) == 0 {
		return nobody
	}
	return w.turns[len(w.turns)-1].task
}

func (w *walk) picks() []int {
	var l []int
	for _, t := range w.turns {
		l = append(l, t.task)
	}
	return l
}
