package crew_test

import (
	"runtime"
	"runtime/metrics"
	"slices"
	"strings"
	"sync"
	"testing"

	"gatehouse/api"
	"gatehouse/crew"
	"gatehouse/store"
)

// How many goroutines a call begins, and that they have ended when it answers.

// begun is how many goroutines a call begins: the fewest of some tries, for the tests' own keepers begin some too.
func begun(call func()) int {
	s := []metrics.Sample{{Name: "/sched/goroutines-created:goroutines"}}
	fewest := 1 << 62
	for range 20 {
		metrics.Read(s)
		before := s[0].Value.Uint64()
		call()
		metrics.Read(s)
		fewest = min(fewest, int(s[0].Value.Uint64()-before))
	}
	return fewest
}

// calls are calls of all three, and how many goroutines each should begin.
func calls(t *testing.T) map[string]struct {
	call func()
	want int
} {
	type row = struct {
		call func()
		want int
	}
	play := func(c api.Config, tasks [][]api.Op, picks []int) func() {
		return func() { crew.Play(c, tasks, picks) }
	}
	relay := func(values, adds int) func() {
		return func() { crew.Relay(make([]int, values), make([]int, adds)) }
	}
	merge := func(parts, each int, turns ...int) func() {
		return func() { crew.Merge(slices.Repeat([][]int{make([]int, each)}, parts), turns) }
	}
	order := list(t, "-1 0:15 7 1:33 0 1 -1")
	return map[string]row{
		"Play":                         {play(config(), tasks(), order), 2},
		"Play without picks":           {play(config(), tasks(), nil), 2},
		"Play of one task's picks":     {play(config(), tasks(), []int{0, 0}), 2},
		"Play of picks of no task":     {play(config(), tasks(), []int{-1, 2}), 2},
		"Play of no task":              {play(config(), nil, []int{0, -1}), 0},
		"Play of tasks without steps":  {play(config(), make([][]api.Op, 5), []int{4}), 5},
		"Play of 64 tasks":             {play(config(), make([][]api.Op, 64), []int{0, 63}), 64},
		"Play of the empty Config":     {play(api.Config{}, tasks(), order), 0},
		"Play of 65 tasks":             {play(config(), make([][]api.Op, 65), order), 0},
		"Play of a text that is none":  {play(with(func(c *api.Config) { c.Text = "?" }), tasks(), order), 0},
		"Play of too many picks":       {play(config(), tasks(), make([]int, api.MaxPicks+1)), 0},
		"Relay without adds":           {relay(3, 0), 0},
		"Relay of an add":              {relay(3, 1), 1},
		"Relay of 5 adds":              {relay(3, 5), 5},
		"Relay of no values":           {relay(0, 5), 5},
		"Relay of 64 adds":             {relay(2, 64), 64},
		"Relay of 65 adds":             {relay(2, 65), 0},
		"Merge of no parts":            {merge(0, 0, 0), 0},
		"Merge of a part":              {merge(1, 3, 0, 0, 0, 0), 1},
		"Merge of parts nobody takes":  {merge(5, 3), 5},
		"Merge of turns of no part":    {merge(5, 3, -1, 5), 5},
		"Merge of empty parts":         {merge(3, 0, 0, 1, 2), 3},
		"Merge of 64 parts":            {merge(64, 2, 0, 63, 63, 63), 64},
		"Merge of 65 parts":            {merge(65, 2, 0, 63), 0},
		"Merge of parts begun only":    {merge(4, 100, 0, 1, 2, 3, 3), 4},
		"Merge that takes all of some": {merge(2, 2, 0, 0, 0, 1), 2},
	}
}

func TestHowManyGoroutinesACallBegins(t *testing.T) {
	for what, x := range calls(t) {
		if n := begun(x.call); n != x.want {
			t.Errorf("%s begins %d goroutines, want %d", what, n, x.want)
		}
	}
}

// With one processor a goroutine that has told its end is gone before anybody else goes on; so a call that does not wait for all is seen. A few times in many the machine breaks in.
func TestAllHaveEnded(t *testing.T) {
	defer runtime.GOMAXPROCS(runtime.GOMAXPROCS(1))
	for what, x := range calls(t) {
		late := 0
		for range 20 {
			before := runtime.NumGoroutine()
			x.call()
			if runtime.NumGoroutine() > before {
				late++
				runtime.Gosched()
			}
		}
		if late > 5 {
			t.Errorf("%s: %d times of 20 a goroutine goes on behind the answer", what, late)
		}
	}
}

// stacks are those of all goroutines that a function of the package has begun.
func stacks() []string {
	all := make([]byte, 1<<20)
	var l []string
	for _, s := range strings.Split(string(all[:runtime.Stack(all, true)]), "\n\n") {
		if strings.Contains(s, "created by gatehouse/crew.") {
			l = append(l, s)
		}
	}
	return l
}

// 26.2, seen from without: while Play goes on each task has a goroutine, and of those one at most is within the store.
func TestTheGoroutinesOfPlay(t *testing.T) {
	var picks []int
	for i := range 200000 {
		picks = append(picks, i%3)
	}
	seen, within := 0, 0
	for range 20 {
		ended := make(chan struct{})
		go func() {
			defer close(ended)
			crew.Play(config(), append(tasks(), []api.Op{version()}), picks)
		}()
		for goesOn := true; goesOn; {
			l := stacks()
			if len(l) > 3 {
				t.Errorf("%d goroutines of 3 tasks", len(l))
			}
			if len(l) == 3 {
				seen++
			}
			n := 0
			for _, s := range l {
				if strings.Contains(s, "gatehouse/store.") {
					n++
				}
			}
			if n > 1 {
				t.Errorf("%d goroutines are within the store:\n%s", n, strings.Join(l, "\n\n"))
			}
			within += n
			select {
			case <-ended:
				goesOn = false
			default:
			}
		}
		if within > 0 && seen > 20 {
			break
		}
	}
	if seen == 0 || within == 0 {
		t.Errorf("the goroutines of 3 tasks were seen %d times, one of them within the store %d times", seen, within)
	}
}

// Nothing is kept from call to call, nor shared by calls that go on at the same time.
func TestCallsSideBySide(t *testing.T) {
	order := list(t, "0:4 -1 1:30 0:11 2 1:3")
	want := store.Play(config(), tasks(), order)
	var all sync.WaitGroup
	for caller := range 8 {
		all.Add(1)
		go func() {
			defer all.Done()
			for n := range 30 {
				wantSame(t, crew.Play(config(), tasks(), order), want)
				wantRelayed(t, []int{caller, n, -n}, []int{n, caller, 3})
				wantMerged(t, [][]int{{caller, n}, {n}, {7, 8, caller}}, []int{2, 0, 1, n % 4, 2, 0, 0})
			}
		}()
	}
	all.Wait()
}

// The same call answers the same with one processor and with some.
func TestProcessorsChangeNothing(t *testing.T) {
	defer runtime.GOMAXPROCS(runtime.GOMAXPROCS(0))
	for _, n := range []int{1, 2, 3, 16} {
		runtime.GOMAXPROCS(n)
		for seed := range 100 {
			d := dice(seed)
			x := draw(&d)
			wantPlayed(t, x.c, x.tasks, x.picks)
			wantRelayed(t, drawnList(&d, 30), drawnList(&d, 64))
			parts := drawnParts(&d)
			wantMerged(t, parts, drawnTurns(&d, len(parts)))
			if t.Failed() {
				t.Fatalf("%d processors, seed %d", n, seed)
			}
		}
	}
}
