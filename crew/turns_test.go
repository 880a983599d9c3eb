package crew

import (
	"fmt"
	"runtime"
	"slices"
	"strings"
	"sync/atomic"
	"testing"
)

// 26.2: which goroutine makes whose steps, and when.

// goroutine is the number that a stack's first line tells: "goroutine 7 [running]:".
func goroutine() string {
	stack := make([]byte, 64)
	return strings.Fields(string(stack[:runtime.Stack(stack, false)]))[1]
}

// made is a step that was made: whose, and by which goroutine.
type made struct {
	task int
	by   string
}

// stepsOf are the steps of some picks, in their order; none at the time of another.
func stepsOf(t *testing.T, tasks int, picks []int) []made {
	t.Helper()
	var steps []made
	var busy atomic.Int32
	inTurn(tasks, picks, func(task int) {
		if busy.Add(1) != 1 {
			t.Error("two steps at once")
		}
		runtime.Gosched() // here another one would come in between
		steps = append(steps, made{task, goroutine()})
		busy.Add(-1)
	})
	return steps
}

// wantOwn asks for the steps of the picks: each task's by a goroutine that is this task's alone, those of no task by the caller's.
func wantOwn(t *testing.T, tasks int, picks []int) {
	t.Helper()
	steps := stepsOf(t, tasks, picks)
	if len(steps) != len(picks) {
		t.Fatalf("%d steps of %d picks", len(steps), len(picks))
	}
	by, whose := map[int]string{-1: goroutine()}, map[string]int{goroutine(): -1}
	for i, s := range steps {
		if s.task != picks[i] {
			t.Fatalf("the step %d of %v is the task %d's", i, picks, s.task)
		}
		task := s.task
		if task < 0 || task >= tasks {
			task = -1
		}
		if g, known := by[task]; known && g != s.by {
			t.Fatalf("the steps of the task %d are made by %s and %s", task, g, s.by)
		}
		if other, known := whose[s.by]; known && other != task {
			t.Fatalf("%s makes steps of the tasks %d and %d", s.by, other, task)
		}
		by[task], whose[s.by] = s.by, task
	}
}

func TestEachTaskHasAGoroutine(t *testing.T) {
	for _, tasks := range []int{0, 1, 2, 3, 64} {
		wantOwn(t, tasks, nil)
		var inARow, inTurns, mixed []int
		for i := range 400 {
			inARow = append(inARow, i*(tasks+2)/400-1)
			inTurns = append(inTurns, i%(tasks+1))
			mixed = append(mixed, i*i*7%(tasks+3)-1)
		}
		for _, picks := range [][]int{inARow, inTurns, mixed, {-1 << 63, 1<<63 - 1, 0, tasks, tasks - 1, -1}} {
			wantOwn(t, tasks, picks)
		}
	}
}

// A task that is picked once, first or last, has its goroutine too.
func TestAllShortTurns(t *testing.T) {
	var all func(picks []int, left int)
	all = func(picks []int, left int) {
		wantOwn(t, 2, picks)
		for task := -1; left > 0 && task <= 2; task++ {
			all(append(slices.Clone(picks), task), left-1)
		}
	}
	all(nil, 5)
}

// What a step has written, the next one sees; so does who has asked for the steps.
func TestStepsMayShare(t *testing.T) {
	text, want := "", ""
	var picks []int
	for i := range 2000 {
		picks = append(picks, i*i/3%6-1)
		want += fmt.Sprintln(picks[i])
	}
	inTurn(4, picks, func(task int) { text += fmt.Sprintln(task) })
	if text != want {
		t.Errorf("the steps are %q, want %q", text, want)
	}
}

// Behind the answer there is no goroutine left that could make a step, and each has been told to end.
func TestNobodyIsLeftBehind(t *testing.T) {
	for _, picks := range [][]int{nil, {0}, {-1, 9}, {7, 0, 7, 3}} {
		before := runtime.NumGoroutine()
		missed := 0
		for range 200 {
			inTurn(8, picks, func(int) {})
			if runtime.NumGoroutine() > before+8 { // a goroutine that has told its end may be about to go
				missed++
			}
		}
		if missed > 20 {
			t.Errorf("%d times of 200 there are more than %d goroutines", missed, before+8)
		}
	}
}
