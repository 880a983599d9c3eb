package diff_test

import (
	"iter"
	"slices"
	"sync"
	"testing"

	"gatehouse/api"
	"gatehouse/diff"
)

// 13.1 and R9: the iterator.

// goneOver are the changes of an iterator, as it is gone over now.
func goneOver(each iter.Seq[api.Change]) string { return written(slices.Collect(each)) }

func TestLeftBehindItsFirstChangeAndGoneOverAgain(t *testing.T) {
	each := diff.Between(load(t, firstText), load(t, secondText))
	var first []api.Change
	for c := range each {
		first = append(first, c)
		break
	}
	if written(first) != "-x/d/o" {
		t.Errorf("the first change: %q", written(first))
	}
	for range 3 {
		if got := goneOver(each); got != there {
			t.Errorf("gone over again: %q", got)
		}
	}
}

// Behind each of the changes, the last one lost and the last of all too: it asks no more once it was told to stop.
func TestStoppedAnywhere(t *testing.T) {
	a, b := load(t, firstText), load(t, secondText)
	each, all := diff.Between(a, b), diff.List(a, b)
	for n := 1; n <= len(all); n++ {
		var got []api.Change
		each(func(c api.Change) bool {
			got = append(got, c)
			return len(got) < n
		})
		if !slices.Equal(got, all[:n]) {
			t.Errorf("stopped behind %d: %q", n, written(got))
		}
		if got := goneOver(each); got != there {
			t.Errorf("behind the stop: %q", got)
		}
	}
	next, stop := iter.Pull(each)
	next()
	stop()
	if c, ok := next(); ok {
		t.Errorf("it goes on behind its stop: %v", c)
	}
}

func TestBetweenIsNeverNil(t *testing.T) {
	a := load(t, firstText)
	for _, each := range []iter.Seq[api.Change]{diff.Between(api.Policy{}, api.Policy{}), diff.Between(a, a), diff.Between(policy("x/d/o", ""), api.Policy{})} {
		if each == nil {
			t.Fatal("nil")
		}
		for range 2 {
			each(func(c api.Change) bool {
				t.Errorf("%v", c)
				return true
			})
		}
	}
}

func TestOneInsideTheOther(t *testing.T) {
	a, b := load(t, firstText), load(t, secondText)
	each, other := diff.Between(a, b), diff.Between(b, a)
	var got []api.Change
	for c := range each {
		got = append(got, c)
		if inner := goneOver(each); inner != there {
			t.Errorf("within %v: %q", c, inner)
		}
		if inner := goneOver(other); inner != back {
			t.Errorf("the other one, within %v: %q", c, inner)
		}
	}
	if written(got) != there {
		t.Errorf("the outer one: %q", written(got))
	}
}

func TestManyGoOverOneIterator(t *testing.T) {
	each := diff.Between(load(t, firstText), load(t, secondText))
	got := make([]string, 8)
	var all sync.WaitGroup
	for i := range got {
		all.Go(func() { got[i] = goneOver(each) })
	}
	all.Wait()
	if !slices.Equal(got, slices.Repeat([]string{there}, len(got))) {
		t.Errorf("%q", got)
	}
}

// turns are ways to make another policy of one, within the memory that was handed in.
func turns() map[string]func(p api.Policy) {
	return map[string]func(p api.Policy){
		"a subject's name":  func(p api.Policy) { p.Subjects[0].Name = "z" },
		"a subject's trust": func(p api.Policy) { p.Subjects[1].Trust = 0 },
		"subjects":          func(p api.Policy) { slices.Reverse(p.Subjects) },
		"an object":         func(p api.Policy) { p.Objects[0] = "f" },
		"actions":           func(p api.Policy) { p.Actions[0] = "q" },
		"members":           func(p api.Policy) { p.Members[0].From = "z" },
		"inherits":          func(p api.Policy) { p.Inherits[0].To = "z" },
		"parts":             func(p api.Policy) { p.Parts[0].From = "z" },
		"withins":           func(p api.Policy) { p.Withins[0].To = "z" },
		"a rule":            func(p api.Policy) { p.Rules[0].Deny = true },
		"a rule's actions":  func(p api.Policy) { p.Rules[1].Actions[0] = "p" },
		"an except":         func(p api.Policy) { p.Excepts[0] = triple("x/d/o") },
	}
}

// leaning has a triple that hangs on each of its lists.
func leaning(t *testing.T) api.Policy {
	return load(t, `action o, p; subject x; subject y trust 0.5; role r, s; object d, e; group g, h;
		member x : r; inherit r : s; part d : g; within g : h; allow s on h : *; allow y on e : o above 0.5; except x on d : p;`)
}

func TestAsThePoliciesAreAtTheCall(t *testing.T) {
	other := policy("x y/d e/o p", "x/e/p y/e/p")
	const lost, gained = "-x/d/o -y/e/o +x/e/p +y/e/p", "-x/e/p -y/e/p +x/d/o +y/e/o"
	for what, turn := range turns() {
		p := leaning(t)
		from, to, still := diff.Between(p, other), diff.Between(other, p), diff.Between(p, p)
		turn(p)
		for range 2 {
			if goneOver(from) != lost || goneOver(to) != gained || goneOver(still) != "" {
				t.Errorf("%s, ahead of the going over: %q and back %q", what, goneOver(from), goneOver(to))
			}
		}
		if written(diff.List(p, other)) == lost {
			t.Errorf("%s: nothing has changed", what)
		}
		var got []api.Change
		p = leaning(t)
		for c := range diff.Between(p, other) {
			got = append(got, c)
			turn(p)
		}
		if written(got) != lost {
			t.Errorf("%s, meanwhile: %q", what, written(got))
		}
	}
}
