package sched_test

import (
	"math"
	"slices"
	"testing"

	"gatehouse/api"
	"gatehouse/sched"
)

// noTasks are numbers that are no task's, whatever is on the board.
func noTasks() []int {
	return []int{-1, -2, -64, math.MinInt, math.MinInt + 1, 64, 65, 128, 1 << 32, 1<<32 + 1, math.MaxInt - 1, math.MaxInt}
}

// 16.2

func TestJoinNumbersTheTasks(t *testing.T) {
	b := sched.New()
	for n := range api.MaxTasks {
		wantJoin(t, b, nil, 0, api.ErrNil)
		wantJoin(t, b, sched.NewCounter(1), n, api.OK)
	}
	for range 3 {
		wantJoin(t, b, sched.NewCounter(1), 0, api.ErrMany)
		wantJoin(t, b, nil, 0, api.ErrNil)
	}
}

// A Join that is refused leaves the board as it was: each number is still that of its machine.
func TestRefusedJoinChangesNothing(t *testing.T) {
	b := sched.New()
	var counters []*sched.Counter
	for range api.MaxTasks {
		c := sched.NewCounter(1)
		b.Join(nil)
		joined(t, b, c)
		counters = append(counters, c)
	}
	late := sched.NewCounter(1)
	wantJoin(t, b, late, 0, api.ErrMany)
	wantNow(t, b, 0)
	wantPick(t, b, api.MaxTasks, false)
	for n := range counters {
		wantEnded(t, b, n, -1)
		wantPick(t, b, n, true)
		wantEnded(t, b, n, n+1)
	}
	for n, c := range counters {
		wantTimes(t, c, n+1)
	}
	wantTimes(t, late)
}

// A board that is full stays so, also when its tasks have ended.
func TestFullOfEndedTasks(t *testing.T) {
	b, _ := boardOf(t, sched.Round(1, api.MaxTasks)...)
	for n := range api.MaxTasks {
		wantPick(t, b, n, true)
	}
	wantJoin(t, b, sched.NewCounter(1), 0, api.ErrMany)
	wantNow(t, b, api.MaxTasks)
}

func TestOneMachineJoinsTwice(t *testing.T) {
	b := sched.New()
	m := &script{answers: []bool{false, false, true, false, true}}
	wantJoin(t, b, m, 0, api.OK)
	wantJoin(t, b, m, 1, api.OK)
	for _, n := range []int{0, 1, 0} {
		wantPick(t, b, n, true)
	}
	wantEnded(t, b, 0, 2)
	wantEnded(t, b, 1, -1) // the step that was the last was the other task's
	wantPick(t, b, 0, false)
	wantPick(t, b, 1, true)
	wantEnded(t, b, 1, -1)
	wantPick(t, b, 1, true)
	wantEnded(t, b, 1, 5)
	wantEnded(t, b, 0, 2)
	if !slices.Equal(m.given, []int{0, 1, 2, 4, 5}) {
		t.Errorf("the machine was given %v", m.given)
	}
}

// A counter that has made its steps ends each task it is, at the first pick of each.
func TestOneCounterJoinsTwice(t *testing.T) {
	b := sched.New()
	c := sched.NewCounter(2)
	joined(t, b, c, c, c)
	for _, n := range []int{0, 2, 1, 0, 0} {
		b.Pick(n)
	}
	wantEnded(t, b, 0, 3)
	wantEnded(t, b, 1, 2)
	wantEnded(t, b, 2, 1)
	wantTimes(t, c, 0, 1)
}

// A machine may be on two boards, and each has its moments.
func TestOneMachineOnTwoBoards(t *testing.T) {
	a, b := sched.New(), sched.New()
	c := sched.NewCounter(3)
	joined(t, a, c)
	joined(t, b, sched.NewCounter(1), c)
	wantPick(t, a, 0, true)
	wantPick(t, b, 5, false)
	wantPick(t, b, 1, true)
	wantPick(t, a, 0, true)
	wantPick(t, b, 1, true)
	wantTimes(t, c, 0, 1, 1)
	wantEnded(t, a, 0, 1)
	wantEnded(t, b, 1, 2)
	wantNow(t, a, 2)
	wantNow(t, b, 3)
}

func TestJoinBehindMoments(t *testing.T) {
	b := sched.New()
	wantPick(t, b, 0, false)
	c, d := sched.NewCounter(2), sched.NewCounter(1)
	wantJoin(t, b, c, 0, api.OK)
	wantPick(t, b, 0, true)
	wantPick(t, b, 1, false)
	wantJoin(t, b, d, 1, api.OK)
	wantNow(t, b, 3)
	wantPick(t, b, 1, true)
	wantPick(t, b, 0, true)
	wantTimes(t, c, 1, 4)
	wantTimes(t, d, 3)
	wantEnded(t, b, 0, 4)
	wantEnded(t, b, 1, 3)
}

// 16.3

func TestPickStepsOnceWithTheMoment(t *testing.T) {
	b := sched.New()
	m, o := &script{answers: []bool{false, false, false, true}}, &script{answers: []bool{false, true}}
	joined(t, b, m, o)
	for i, c := range []struct {
		task, m, o int // how often each has made a step by then
	}{{0, 1, 0}, {0, 2, 0}, {1, 2, 1}, {2, 2, 1}, {0, 3, 1}, {-1, 3, 1}, {1, 3, 2}, {1, 3, 2}, {0, 4, 2}, {0, 4, 2}} {
		b.Pick(c.task)
		if len(m.given) != c.m || len(o.given) != c.o {
			t.Errorf("behind the pick %d: %v and %v", i, m.given, o.given)
		}
	}
	if !slices.Equal(m.given, []int{0, 1, 4, 8}) || !slices.Equal(o.given, []int{2, 6}) {
		t.Errorf("the machines were given %v and %v", m.given, o.given)
	}
}

func TestPickOfNoTask(t *testing.T) {
	b, counters := boardOf(t, 1, 1)
	for i, n := range append(noTasks(), 2, 3, 63) {
		wantNow(t, b, i)
		wantPick(t, b, n, false)
		wantNow(t, b, i+1)
		wantEnded(t, b, n, -1)
	}
	passed := b.Now()
	wantTimes(t, counters[0])
	wantTimes(t, counters[1])
	wantPick(t, b, 1, true)
	wantTimes(t, counters[1], passed)
}

func TestPickOfATaskThatEnded(t *testing.T) {
	b, counters := boardOf(t, 1, 2)
	wantPick(t, b, 0, true)
	for i := range 5 {
		wantPick(t, b, 0, false)
		wantNow(t, b, i+2)
		wantEnded(t, b, 0, 0)
	}
	wantTimes(t, counters[0], 0)
	wantPick(t, b, 1, true)
	wantTimes(t, counters[1], 6)
}

// A machine that says that a step was the last is not asked again, whatever it would say.
func TestEndedMachineIsLeftAlone(t *testing.T) {
	b := sched.New()
	m := &script{answers: []bool{true, false, false}}
	joined(t, b, m)
	wantPick(t, b, 0, true)
	wantPick(t, b, 0, false)
	wantPick(t, b, 0, false)
	wantEnded(t, b, 0, 0)
	if len(m.given) != 1 {
		t.Errorf("the machine was given %v", m.given)
	}
}

// The other way round: one that never says so goes on.
func TestMachineWithoutEnd(t *testing.T) {
	b := sched.New()
	m := &script{answers: make([]bool, 1000)}
	joined(t, b, m)
	for range 1000 {
		wantPick(t, b, 0, true)
	}
	wantEnded(t, b, 0, -1)
	wantNow(t, b, 1000)
}

func TestPickOfEachOfManyTasks(t *testing.T) {
	b, counters := boardOf(t, sched.Round(1, api.MaxTasks)...)
	for now := range api.MaxTasks {
		task := (now*37 + 5) % api.MaxTasks
		wantPick(t, b, task, true)
		wantEnded(t, b, task, now)
		wantTimes(t, counters[task], now)
	}
}

// A machine may be any value with a Step, also one that can't be compared.
func TestMachinesOfOtherKinds(t *testing.T) {
	b := sched.New()
	var given []int
	joined(t, b, asking(func(now int) { given = append(given, now) }), list{1, 2})
	wantPick(t, b, 1, true)
	wantPick(t, b, 0, true)
	wantEnded(t, b, 0, 1)
	wantEnded(t, b, 1, 0)
	if !slices.Equal(given, []int{1}) {
		t.Errorf("the function was given %v", given)
	}
}

// list is a machine of one step, as long as it has something.
type list []int

func (l list) Step(int) bool { return len(l) > 0 }

// 16.4

func TestNewBoard(t *testing.T) {
	b := sched.New()
	wantNow(t, b, 0)
	for _, n := range append(noTasks(), 0, 1, 63) {
		wantEnded(t, b, n, -1)
	}
	wantNow(t, b, 0)
}

func TestEndedOfNoTask(t *testing.T) {
	b, _ := boardOf(t, 1, 1, 1)
	for n := range 3 {
		wantPick(t, b, n, true)
	}
	for _, n := range append(noTasks(), 3, 4, 63) {
		wantEnded(t, b, n, -1)
	}
	for n := range 3 {
		wantEnded(t, b, n, n)
	}
	wantNow(t, b, 3)
}

func TestEndedStays(t *testing.T) {
	b, _ := boardOf(t, 2, 1)
	wantPick(t, b, 0, true)
	wantEnded(t, b, 0, -1)
	wantPick(t, b, 0, true)
	for now := 2; now < 10; now++ {
		wantEnded(t, b, 0, 1)
		wantEnded(t, b, 1, -1)
		wantNow(t, b, now)
		wantPick(t, b, 0, false)
	}
	wantPick(t, b, 1, true)
	wantEnded(t, b, 0, 1)
	wantEnded(t, b, 1, 10)
}

// In its Step a machine may ask: its moment has not passed yet, and the task has not ended.
func TestAskedInAStep(t *testing.T) {
	b := sched.New()
	var now, asked, ended, other int
	b.Join(sched.NewCounter(1))
	joined(t, b, asking(func(n int) { now, asked, ended, other = n, b.Now(), b.Ended(1), b.Ended(0) }))
	b.Pick(9)
	b.Pick(0)
	b.Pick(1)
	if now != 2 || asked != 2 || ended != -1 || other != 1 {
		t.Errorf("in the step %d: Now() = %d, Ended(1) = %d, Ended(0) = %d", now, asked, ended, other)
	}
	wantNow(t, b, 3)
	wantEnded(t, b, 1, 2)
}

func TestBoardsApart(t *testing.T) {
	a, c := boardOf(t, 1)
	b, d := boardOf(t, 1)
	wantPick(t, a, 0, true)
	wantNow(t, b, 0)
	wantEnded(t, b, 0, -1)
	wantPick(t, b, 3, false)
	wantPick(t, b, 0, true)
	wantEnded(t, a, 0, 0)
	wantEnded(t, b, 0, 1)
	wantTimes(t, c[0], 0)
	wantTimes(t, d[0], 1)
	wantNow(t, a, 1)
}
