package sched_test

import (
	"slices"
	"testing"

	"gatehouse/sched"
)

// dice throws numbers, always the same ones.
type dice uint64

func (d *dice) throw(n int) int {
	*d = *d*6364136223846793005 + 1442695040888963407
	return int(uint64(*d>>33) % uint64(n))
}

// slowFair asks each task, each row and each moment of it.
func slowFair(picks, ends []int, window int) bool {
	if window < 1 {
		return false
	}
	for task, end := range ends {
		if end < 0 || end > len(picks)-1 {
			end = len(picks) - 1
		}
		for from := 0; from+window-1 <= end; from++ {
			if !slices.Contains(picks[from:from+window], task) {
				return false
			}
		}
	}
	return true
}

// All short lists of picks, with all ends of two tasks, and all windows.
func TestFairOfAllShortLists(t *testing.T) {
	for n := range 6 {
		each(n, -1, 2, func(picks []int) {
			each(2, -1, n, func(ends []int) {
				for window := -1; window <= n+2; window++ {
					wantFair(t, picks, ends, window, slowFair(picks, ends, window))
				}
			})
		})
	}
}

func TestFairOfThrownLists(t *testing.T) {
	d := dice(1)
	fair := 0
	for range 4000 {
		ends := make([]int, d.throw(5))
		picks := make([]int, d.throw(60))
		for task := range ends {
			ends[task] = d.throw(len(picks)+4) - 2
		}
		for now := range picks {
			picks[now] = d.throw(len(ends)+2) - 1
		}
		window := d.throw(30)
		want := slowFair(picks, ends, window)
		if want && len(ends) > 0 && len(picks) >= window {
			fair++
		}
		wantFair(t, picks, ends, window, want)
	}
	if fair < 100 {
		t.Errorf("only %d lists were fair: the throws say little", fair)
	}
}

// slowMixes are all lists of the numbers there are, as long as the sum, of which each has its count.
func slowMixes(steps []int) [][]int {
	sum := 0
	for _, n := range steps {
		sum += max(n, 0)
	}
	var mixes [][]int
	if len(steps) == 0 {
		return [][]int{nil}
	}
	each(sum, 0, len(steps)-1, func(list []int) {
		for i, n := range steps {
			if len(placesOf(list, i)) != max(n, 0) {
				return
			}
		}
		mixes = append(mixes, slices.Clone(list))
	})
	return mixes
}

func TestMixesOfAllSmallNumbers(t *testing.T) {
	for n := range 4 {
		each(n, -1, 2, func(steps []int) {
			wantMixes(t, sched.Mixes(steps...), slowMixes(steps)...)
		})
	}
	for _, steps := range [][]int{{4, 4}, {0, 3, 3, 0}, {5, 1, 2}, {1, 1, 1, 1, 1}, {2, 1, 1, 2}, {1, 7}, {8}} {
		wantMixes(t, sched.Mixes(steps...), slowMixes(steps)...)
	}
}

// How many there are: the sum's factorial, by that of each number.
func TestMixesAreAsManyAsThereCanBe(t *testing.T) {
	for _, c := range []struct {
		steps []int
		want  int
	}{{[]int{9, 9}, 48620}, {[]int{3, 3, 3, 1}, 16800}, {[]int{1, 1, 1, 1, 1, 1, 1, 1}, 40320}, {[]int{1, 300}, 301}, {[]int{2, 60}, 1891}} {
		n := 0
		var ahead []int
		for list := range sched.Mixes(c.steps...) {
			if n > 0 && slices.Compare(ahead, list) >= 0 {
				t.Fatalf("Mixes(%v): %v is ahead of %v", c.steps, ahead, list)
			}
			ahead = list
			n++
		}
		if n != c.want {
			t.Errorf("Mixes(%v) has %d lists, want %d", c.steps, n, c.want)
		}
	}
}

// slowBoard reckons all of a board's answers from the list of its picks.
type slowBoard struct {
	picks []int
	left  []int // steps that a task's counter has not made
	ends  []int
}

func (b *slowBoard) join(steps int) {
	b.left, b.ends = append(b.left, max(steps, 1)), append(b.ends, -1)
}

func (b *slowBoard) pick(n int) bool {
	b.picks = append(b.picks, n)
	if n < 0 || n >= len(b.left) || b.left[n] == 0 {
		return false
	}
	b.left[n]--
	if b.left[n] == 0 {
		b.ends[n] = len(b.picks) - 1
	}
	return true
}

// Long rows of picks and joins, held against the second reckoning at each moment.
func TestThrownRows(t *testing.T) {
	for seed := range 30 {
		d := dice(seed)
		b, slow := sched.New(), &slowBoard{}
		var counters []*sched.Counter
		times := make([][]int, 64)
		for range 1500 {
			if len(counters) < 64 && d.throw(20) == 0 {
				steps := d.throw(60) - 5
				c := sched.NewCounter(steps)
				wantJoin(t, b, c, len(counters), 0)
				slow.join(steps)
				counters = append(counters, c)
			}
			n := d.throw(len(counters)+3) - 1
			want := slow.pick(n)
			if want {
				times[n] = append(times[n], len(slow.picks)-1)
			}
			wantPick(t, b, n, want)
			wantNow(t, b, len(slow.picks))
			wantEnded(t, b, len(counters), -1)
			for n, end := range slow.ends {
				wantEnded(t, b, n, end)
			}
		}
		for n, c := range counters {
			wantTimes(t, c, times[n]...)
		}
	}
}
