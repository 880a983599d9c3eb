package crew_test

import (
	"fmt"
	"strings"
	"testing"

	"gatehouse/api"
)

// 26.1 and W7, of many drawn configurations, tasks and picks.

// drawn are a configuration, tasks, and picks.
type drawn struct {
	c     api.Config
	tasks [][]api.Op
	picks []int
}

var drawnTexts = []string{
	small,
	"",
	"subject ann; object door; action open, read; role r; member ann : r; allow r on door : *;",
	"action open; subject ann, eve; object door, gate; allow ann on door, gate: open; allow eve on gate: open;",
	"action open, read; subject ann trust 0.5; role clerk; object door; group all; member ann : clerk; part door : all; allow clerk on all : open above 0.25; deny ann on door : read;",
}

var drawnUpdates = append([]string{"?", "subject ann", "member a : b;", "subject ann; subject ann;", small + "subject zoe;"}, drawnTexts...)

func drawTriple(d *dice) api.Triple {
	if d.throw(3) > 0 {
		return door
	}
	return api.Triple{Subject: of(d, []string{"ann", "ann", "eve", "nobody"}), Object: of(d, []string{"door", "door", "gate", "ann"}), Action: of(d, []string{"open", "open", "read", "door"})}
}

func drawOp(d *dice) api.Op {
	switch d.throw(20) {
	case 0, 1:
		return register()
	case 2:
		return unregister()
	case 3, 4, 5, 6, 7, 8, 9:
		return check(drawTriple(d))
	case 10, 11:
		return version()
	case 12, 13:
		return update(of(d, drawnUpdates))
	case 14:
		return apply(api.Delta{Kind: of(d, []int8{api.DeltaRestore, api.DeltaRestore, api.DeltaExcept, 99}), Triple: drawTriple(d)})
	case 15:
		return apply(newSubject(of(d, []string{"eve", "zoe", "ann"})), api.Delta{Kind: api.DeltaTrust, Name: "ann", Trust: float64(d.throw(3)) / 2})
	case 16, 17, 18:
		return revoke(drawTriple(d))
	}
	return api.Op{Kind: int8(d.throw(256) - 128), Triple: drawTriple(d), Text: small}
}

func drawTask(d *dice) []api.Op {
	var ops []api.Op
	if d.throw(4) > 0 {
		ops = append(ops, register())
	}
	for range d.throw(7) {
		ops = append(ops, drawOp(d))
	}
	return ops
}

// drawConfig is seldom refused; a half has a flaw.
func drawConfig(d *dice) api.Config {
	return api.Config{
		Text:  of(d, []string{small, small, small, drawnTexts[2], drawnTexts[3], drawnTexts[4]}),
		Slots: of(d, []int{1, 1, 2, 2, 3, 16}),
		Sets:  of(d, []int{0, 1, 1, 2}),
		Ways:  1 + d.throw(3),
		Words: of(d, []int{80, 100, 150, 200, 300}),
		First: of(d, []int{1, 5, 5, 5, 1<<31 - 3, 1<<31 - 2}),
		Disk:  of(d, []int{200, 600, 2000, 8000, 8000}),
		Flaw:  of(d, []int{0, 0, 0, 0, 0, 0, 1, 2, 3, 4, 5, 6}),
	}
}

// draw has rows of picks of one task, and picks of no task between them.
func draw(d *dice) drawn {
	x := drawn{c: drawConfig(d)}
	for range d.throw(6) {
		x.tasks = append(x.tasks, drawTask(d))
	}
	task, often := 0, 1+d.throw(20)
	for range d.throw(600) {
		if d.throw(often) == 0 {
			task = d.throw(len(x.tasks)+2) - 1
		}
		x.picks = append(x.picks, task)
	}
	return x
}

// spoil makes a configuration one that may hardly be, or not at all.
func spoil(d *dice, x *drawn) {
	switch d.throw(9) {
	case 0:
		x.c.Slots = of(d, []int{-1, 0, 1, 16, 17, 1 << 40})
	case 1:
		x.c.Sets = of(d, []int{-1, 0, 256, 257})
	case 2:
		x.c.Ways = of(d, []int{-1, 0, 1, 8, 9})
	case 3:
		x.c.Words = of(d, []int{-1, 0, 1, 65536, 65537, 4 + 2*min(x.c.Slots, 99), 5 + 2*min(x.c.Slots, 99), 25 + 2*min(x.c.Slots, 99)})
	case 4:
		x.c.First = of(d, []int{-1, 0, 1, 1<<31 - 1, 1 << 31})
	case 5:
		x.c.Disk = of(d, []int{-1, 0, 81, 82, 1 << 20, 1<<20 + 1})
	case 6:
		x.c.Flaw = of(d, []int{-1, 0, 6, 7})
	case 7:
		x.c.Text = of(d, []string{"?", "subject a", "subject a; subject a;", "member a : b;"})
	case 8:
		if d.throw(2) == 0 {
			x.tasks = append(x.tasks, make([]api.Op, of(d, []int{0, 256, 257})))
		} else {
			x.tasks = append(x.tasks, make([][]api.Op, of(d, []int{1, 59, 65}))...)
		}
	}
}

// tally counts what has happened, so that a test in which nothing does is seen.
type tally map[string]int

func (n tally) count(x drawn, r api.Run) {
	n["flaw "+fmt.Sprint(x.c.Flaw)]++
	n["tasks "+fmt.Sprint(len(x.tasks))]++
	for _, e := range r.Events {
		if e.Ended < 0 {
			n["in progress"]++
			continue
		}
		n["code "+fmt.Sprint(int(e.Code))]++
		for what, is := range map[string]bool{"hit": e.Hit, "broken": e.Broken, "allowed": e.Allowed} {
			if is {
				n[what]++
			}
		}
	}
	for i, a := range r.Trace {
		if task := r.Tasks[i]; a.Kind == api.AccessNone && (task < 0 || task >= len(x.tasks)) {
			n["of no task"]++
		}
	}
	n["versions"] += max(0, len(r.Versions)-1)
}

func (n tally) want(t *testing.T, least int, what string) {
	t.Helper()
	for _, x := range strings.Split(what, ", ") {
		if n[x] < least {
			t.Errorf("%s: %d times, want %d: %v", x, n[x], least, n)
		}
	}
}

func TestDrawnRuns(t *testing.T) {
	n := tally{}
	for seed := range 2000 {
		d := dice(seed)
		x := draw(&d)
		r := wantPlayed(t, x.c, x.tasks, x.picks)
		wantSame(t, r, picked(t, x.c, x.tasks, x.picks))
		if t.Failed() {
			t.Fatalf("seed %d: %+v", seed, x)
		}
		n.count(x, r)
	}
	n.want(t, 100, "of no task, in progress, hit, allowed, versions, tasks 0, tasks 5, flaw 0, flaw 1, flaw 2, flaw 3, flaw 4, flaw 5, flaw 6")
	n.want(t, 20, "code 0, code 1, code 60, code 61, code 93, code 180, code 181, code 182, code 210, code 250")
	n.want(t, 3, "broken, code 150")
}

func TestDrawnConfigurations(t *testing.T) {
	n := tally{}
	for seed := range 3000 {
		d := dice(seed)
		x := draw(&d)
		for range 1 + d.throw(2) {
			spoil(&d, &x)
		}
		r := wantPlayed(t, x.c, x.tasks, x.picks)
		if t.Failed() {
			t.Fatalf("seed %d: %+v", seed, x)
		}
		n["code "+fmt.Sprint(int(r.Code))]++
	}
	n.want(t, 20, "code 0, code 4, code 20, code 40, code 60, code 61, code 150, code 210, code 251")
}
