package judge_test

import (
	"math"
	"slices"
	"testing"

	"gatehouse/api"
	"gatehouse/judge"
)

// 27.9: the first promise that is broken.

// spoils break one promise of the run by hand each, and no other one.
func spoils() map[int8]func(r *api.Run) {
	return map[int8]func(r *api.Run){
		api.BreachAnswer: func(r *api.Run) { r.Events[late].Version = 9 },
		api.BreachRevoked: func(r *api.Run) {
			r.Versions[1].Policy.Rules = append(r.Versions[1].Policy.Rules, allowing("z").Rules...)
		},
		api.BreachPoison: func(r *api.Run) { r.Trace[0].Good = false },
		api.BreachLive:   func(r *api.Run) { r.Live[15] = 2 },
		api.BreachSteps:  func(r *api.Run) { r.Events[asked].Steps = 18 },
	}
}

func TestTheFirstBreach(t *testing.T) {
	all := spoils()
	for set := range 1 << 5 {
		tasks, r := run()
		want := api.BreachNone
		for breach := api.BreachSteps; breach > api.BreachNone; breach-- {
			if set>>(breach-1)&1 == 1 {
				all[breach](&r)
				want = breach
			}
		}
		if got := wantReckoned(t, tasks, r); got != want {
			t.Errorf("the promises %05b are broken: Breach = %d, want %d", set, got, want)
		}
		for breach, kept := range map[int8]bool{1: judge.Answers(tasks, r), 2: judge.Revoked(tasks, r), 3: judge.Unpoisoned(r), 4: judge.Few(r), 5: judge.Quick(r)} {
			if kept != (set>>(breach-1)&1 == 0) {
				t.Errorf("the promises %05b are broken: of %d it says %v", set, breach, kept)
			}
		}
	}
}

// What an event breaks in one promise may break another one too.
func TestBreachesOfOneThing(t *testing.T) {
	for _, x := range []struct {
		what string
		turn func(r *api.Run)
		want int8
	}{
		{"an old answer behind the revoke", func(r *api.Run) { r.Events[late].Allowed = true }, api.BreachAnswer},
		{"a check that outlives the revoke", func(r *api.Run) { r.Events[early].Ended = 9 }, api.BreachRevoked},
		{"a version that outlives an apply", func(r *api.Run) { r.Events[asked].Ended = 28 }, api.BreachPoison},
		{"a page that is given back late", func(r *api.Run) { r.Versions[1].Gone = 30 }, api.BreachLive},
		{"a check that goes on and on", func(r *api.Run) { r.Events[open].Steps = 17 }, api.BreachSteps},
		{"the versions turned", func(r *api.Run) { slices.Reverse(r.Versions) }, api.BreachAnswer},
		{"the events turned", func(r *api.Run) { slices.Reverse(r.Events) }, api.BreachNone},
		{"other picks, caches, symbols, disk", func(r *api.Run) {
			r.Tasks, r.Stats, r.Symbols, r.Disk, r.Synced = []int{7, -7}, make([]api.Stats, 99), []string{"x"}, "disk", -1
		}, api.BreachNone},
		{"a Code", func(r *api.Run) { r.Code = api.ErrMany }, api.BreachNone},
		{"a Code, and a broken promise", func(r *api.Run) { r.Code, r.Events[late].Allowed = api.ErrMany, true }, api.BreachAnswer},
	} {
		tasks, r := run()
		x.turn(&r)
		if got := wantReckoned(t, tasks, r); got != x.want {
			t.Errorf("%s: Breach = %d, want %d", x.what, got, x.want)
		}
	}
}

func TestRunsOfNothing(t *testing.T) {
	tasks, _ := run()
	for _, r := range []api.Run{
		{},
		{Code: api.ErrConfig},
		{Events: []api.Event{}, Trace: []api.Access{}, Versions: []api.Version{}, Live: []int{}},
		{Versions: []api.Version{{}}},
		{Versions: []api.Version{{Point: -1, Gone: -1}}, Live: ones(9), Tasks: make([]int, 9), Trace: make([]api.Access, 9)},
		{Events: make([]api.Event, 5)},
		{Trace: make([]api.Access, 5), Live: make([]int, 3)},
		{Events: []api.Event{{Kind: api.OpCheck, Ended: -1, Point: -1}, {Kind: api.OpRevoke, Ended: -1, Point: -1}}},
	} {
		for _, list := range [][][]api.Op{nil, {}, {nil, {}}, tasks} {
			if got := wantReckoned(t, list, r); got != api.BreachNone {
				t.Errorf("Breach = %d: %+v", got, r)
			}
		}
	}
	// a zero event of each kind
	for kind := int8(-2); kind < 12; kind++ {
		want := api.BreachNone
		if kind >= api.OpCheck && kind <= api.OpVersion {
			want = api.BreachAnswer
		}
		if got := wantReckoned(t, nil, api.Run{Events: []api.Event{{Kind: kind}}}); got != want {
			t.Errorf("the kind %d: Breach = %d", kind, got)
		}
	}
}

// R1: every run is taken, whatever numbers it has.
func TestRunsOfWildNumbers(t *testing.T) {
	wild := []int{math.MinInt, math.MinInt + 1, -1, 0, 1, 5, math.MaxInt - 1, math.MaxInt}
	for seed := range 4000 {
		d := dice(seed)
		tasks, r := drawRun(&d)
		for i := range r.Events {
			e := &r.Events[i]
			for _, n := range []*int{&e.Task, &e.Number, &e.Began, &e.Ended, &e.Point, &e.Steps, &e.Version} {
				if d.yes(3) {
					*n = of(&d, wild)
				}
			}
		}
		for i := range r.Versions {
			v := &r.Versions[i]
			for _, n := range []*int{&v.Number, &v.Addr, &v.Point, &v.Gone} {
				if d.yes(3) {
					*n = of(&d, wild)
				}
			}
		}
		for i := range r.Live {
			if d.yes(9) {
				r.Live[i] = of(&d, wild)
			}
		}
		wantReckoned(t, tasks, r)
	}
}
