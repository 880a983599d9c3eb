package judge_test

import (
	"reflect"
	"slices"
	"testing"

	"gatehouse/api"
	"gatehouse/judge"
	"gatehouse/mean"
)

// A second reckoning: the chapter's words one by one, whatever it takes.

// isRight says whether an order is a right one of calls whose moments may be. (allows says what the policy that a call has put there says of another call's triple; -1 stands for the first policy.)
func isRight(calls []api.Call, allows func(write, check int) bool, order []int) bool {
	for i, k := range order {
		if k < 0 || k >= len(calls) || slices.Contains(order[:i], k) {
			return false
		}
		for _, later := range order[i+1:] {
			if later >= 0 && later < len(calls) && calls[later].Ended >= 0 && calls[later].Ended < calls[k].Began {
				return false
			}
		}
	}
	for k, c := range calls {
		if c.Ended >= 0 && !slices.Contains(order, k) {
			return false
		}
	}
	last := -1
	for _, k := range order {
		switch c := calls[k]; {
		case c.Write && !c.Failed:
			last = k
		case !c.Write && allows(last, k) != c.Allowed:
			return false
		}
	}
	return true
}

func mayAllBe(calls []api.Call) bool {
	return !slices.ContainsFunc(calls, func(c api.Call) bool { return c.Began < 0 || c.Ended != -1 && c.Ended < c.Began })
}

// table is what each policy says of each check's triple: asked once.
func table(first api.Policy, calls []api.Call) func(write, check int) bool {
	var said [][]bool
	for i := range len(calls) + 1 {
		policy := first
		if i > 0 {
			policy = calls[i-1].Policy
		}
		var row []bool
		for _, c := range calls {
			row = append(row, mean.Allows(policy, c.Triple))
		}
		said = append(said, row)
	}
	return func(write, check int) bool { return said[write+1][check] }
}

// trial tries all orders, the first ones first, and goes on as long as it is told to.
func trial(n int, order []int, try func(order []int) bool) bool {
	if !try(order) {
		return false
	}
	for k := range n {
		if !slices.Contains(order, k) && !trial(n, append(slices.Clone(order), k), try) {
			return false
		}
	}
	return true
}

// firstRight is the first right order, by trial.
func firstRight(first api.Policy, calls []api.Call) ([]int, bool) {
	allows := table(first, calls)
	var found []int
	none := trial(len(calls), nil, func(order []int) bool {
		if isRight(calls, allows, order) {
			found = order
			return false
		}
		return true
	})
	return found, !none
}

// firstByTables is the first right order of more calls than can be tried: of all sets of calls and all that the register may hold it is reckoned, the greater sets first, whether they can be gone on from; then one goes by that.
func firstByTables(first api.Policy, calls []api.Call) ([]int, bool) {
	allows, n := table(first, calls), len(calls)
	may := func(set, last, k int) bool {
		if set>>k&1 == 1 || !calls[k].Write && allows(last, k) != calls[k].Allowed {
			return false
		}
		for other, c := range calls {
			if set>>other&1 == 0 && c.Ended >= 0 && c.Ended < calls[k].Began {
				return false
			}
		}
		return true
	}
	behind := func(last, k int) int {
		if calls[k].Write && !calls[k].Failed {
			return k
		}
		return last
	}
	whole := func(set int) bool {
		for k, c := range calls {
			if c.Ended >= 0 && set>>k&1 == 0 {
				return false
			}
		}
		return true
	}
	leads := make([][]bool, 1<<n)
	for set := 1<<n - 1; set >= 0; set-- {
		leads[set] = make([]bool, n+1)
		for last := -1; last < n; last++ {
			good := whole(set)
			for k := 0; k < n && !good; k++ {
				good = may(set, last, k) && leads[set|1<<k][behind(last, k)+1]
			}
			leads[set][last+1] = good
		}
	}
	if !leads[0][0] {
		return nil, false
	}
	var order []int
	for set, last := 0, -1; !whole(set); {
		for k := range n {
			if may(set, last, k) && leads[set|1<<k][behind(last, k)+1] {
				order, set, last = append(order, k), set|1<<k, behind(last, k)
				break
			}
		}
	}
	return order, true
}

var drawnPolicies = []string{"", "", "x", "x", "y", "xy", "xyz"}

// drawCall is any call, in a short time.
func drawCall(d *dice, moments int) api.Call {
	c := api.Call{Began: d.throw(moments), Triple: on(of(d, []string{"x", "x", "x", "y", "nothing"}))}
	c.Ended = c.Began + d.throw(moments)
	if d.yes(6) {
		c.Ended = -1
	}
	c.Write, c.Failed, c.Allowed = d.yes(3), d.yes(5), d.yes(2)
	c.Policy = allowing(of(d, drawnPolicies))
	return c
}

func drawCalls(d *dice, most, moments int) []api.Call {
	var l []api.Call
	for range d.throw(most + 1) {
		l = append(l, drawCall(d, moments))
	}
	return l
}

// drawRight are calls of a register: an order of them is right.
func drawRight(d *dice, first api.Policy, most, length int) []api.Call {
	l, held := drawCalls(d, most, 2), first
	for k := range l {
		c, point := &l[k], 3*k+length
		if d.yes(6) && c.Ended < 0 { // it has not come to its point
			c.Began = max(0, point-d.throw(length))
			continue
		}
		c.Began = point - d.throw(length)
		if c.Ended >= 0 {
			c.Ended = point + d.throw(length)
		}
		if !c.Write {
			c.Allowed = mean.Allows(held, c.Triple)
		} else if !c.Failed {
			held = c.Policy
		}
	}
	for i := range l { // the places tell nothing
		k := i + d.throw(len(l)-i)
		l[i], l[k] = l[k], l[i]
	}
	return l
}

// wantFirst asks Linear for what was reckoned.
func wantFirst(t *testing.T, first api.Policy, calls []api.Call, want []int, there bool) {
	t.Helper()
	order, found, e := judge.Linear(first, calls)
	if !slices.Equal(order, want) || found != there || e != api.OK {
		t.Fatalf("Linear = %v, %v, %v, want %v, %v: %+v, first %+v", order, found, e, want, there, calls, first)
	}
	if found && !judge.Follows(first, calls, order) {
		t.Fatalf("%v is not followed: %+v, first %+v", order, calls, first)
	}
}

// 27.1, and W13: the first of all orders, and none where there is none.
func TestDrawnCallsByTrialOfAllOrders(t *testing.T) {
	n := map[bool]int{}
	for seed := range 3000 {
		d := dice(seed)
		first := allowing(of(&d, drawnPolicies))
		calls := drawCalls(&d, 5, of(&d, []int{1, 3, 8, 20}))
		if seed%2 == 0 {
			calls = drawRight(&d, first, 6, of(&d, []int{1, 3, 8, 20}))
		}
		want, there := firstRight(first, calls)
		wantFirst(t, first, calls, want, there)
		again, thereToo := firstByTables(first, calls)
		if !slices.Equal(again, want) || thereToo != there {
			t.Fatalf("the two ways of reckoning differ: %v, %v", want, again)
		}
		n[there]++
	}
	if n[true] < 1000 || n[false] < 500 {
		t.Errorf("an order or none: %v", n)
	}
}

func TestDrawnCallsUpToTwelve(t *testing.T) {
	n := map[bool]int{}
	for seed := range 250 {
		d := dice(seed)
		first := allowing(of(&d, drawnPolicies))
		calls := drawRight(&d, first, 12, of(&d, []int{2, 6, 15, 40}))
		if len(calls) > 0 && seed%3 > 0 {
			c := &calls[d.throw(len(calls))]
			c.Allowed = !c.Allowed
		}
		want, there := firstByTables(first, calls)
		if !there && seed%3 == 0 {
			t.Fatal("calls of a register have no order")
		}
		wantFirst(t, first, calls, want, there)
		n[there]++
	}
	if n[true] < 80 || n[false] < 50 {
		t.Errorf("an order or none: %v", n)
	}
}

// 27.2, of all orders: also of such as name places twice, or that there are not.
func TestDrawnOrders(t *testing.T) {
	n := map[bool]int{}
	for seed := range 1500 {
		d := dice(seed)
		first := allowing(of(&d, drawnPolicies))
		calls := drawRight(&d, first, 4, of(&d, []int{1, 3, 8}))
		if d.yes(4) && len(calls) > 0 {
			calls[d.throw(len(calls))].Ended = d.throw(6) - 3
		}
		if d.yes(8) && len(calls) > 0 {
			calls[d.throw(len(calls))].Began = d.throw(6) - 3
		}
		may, allows := mayAllBe(calls), table(first, calls)
		try := func(order []int) bool {
			want := may && isRight(calls, allows, order)
			if got := judge.Follows(first, calls, order); got != want {
				t.Fatalf("Follows(%v) = %v: %+v, first %+v", order, got, calls, first)
			}
			n[want]++
			return true
		}
		trial(len(calls), nil, try)
		for range 20 {
			var order []int
			for range d.throw(len(calls) + 2) {
				order = append(order, d.throw(len(calls)+2)-1)
			}
			try(order)
		}
		if _, _, e := judge.Linear(first, calls); (e == api.OK) != may {
			t.Fatalf("Linear: %v: %+v", e, calls)
		}
	}
	if n[true] < 1000 || n[false] < 1000 {
		t.Errorf("right or not: %v", n)
	}
}

// reckoned is a run by the chapter's words.
type reckoned struct {
	tasks [][]api.Op
	r     api.Run
}

func (x reckoned) triple(e api.Event) api.Triple {
	for task, ops := range x.tasks {
		for number, op := range ops {
			if task == e.Task && number == e.Number {
				return op.Triple
			}
		}
	}
	return api.Triple{}
}

// counting is the place of the version that counts at a moment, -1: none.
func (x reckoned) counting(now int) int {
	at := -1
	for i, v := range x.r.Versions {
		if v.Point < now && (at < 0 || v.Point > x.r.Versions[at].Point) {
			at = i
		}
	}
	return at
}

// putAt is the place of the first version with a point, -1: none.
func (x reckoned) putAt(point int) int {
	return slices.IndexFunc(x.r.Versions, func(v api.Version) bool { return v.Point == point })
}

func reads(e api.Event) bool { return e.Kind == 3 || e.Kind == 7 }

func writes(e api.Event) bool { return e.Kind == 4 || e.Kind == 5 || e.Kind == 6 }

func well(e api.Event) bool { return e.Ended >= 0 && e.Code == 0 }

func (x reckoned) calls() ([]api.Call, []int) {
	var calls []api.Call
	var places []int
	for i, e := range x.r.Events {
		c := api.Call{Began: e.Began, Ended: e.Ended}
		switch {
		case e.Kind == 3 && well(e):
			c.Allowed, c.Triple = e.Allowed, x.triple(e)
		case writes(e) && (e.Ended >= 0 || e.Point >= 0):
			c.Write, c.Failed = true, e.Code != 0
			if e.Ended < 0 {
				c.Ended = -1
			}
			if at := x.putAt(e.Point); !c.Failed && at >= 0 {
				c.Policy = x.r.Versions[at].Policy
			}
		default:
			continue
		}
		calls, places = append(calls, c), append(places, i)
	}
	return calls, places
}

func (x reckoned) answers() bool {
	for i := range x.r.Versions {
		if i > 0 && (x.r.Versions[i].Number-x.r.Versions[i-1].Number != 1 || x.r.Versions[i].Point <= x.r.Versions[i-1].Point) {
			return false
		}
	}
	for _, e := range x.r.Events {
		if !well(e) {
			continue
		}
		if at := x.counting(e.Point); reads(e) {
			if e.Broken || at < 0 || e.Version != x.r.Versions[at].Number {
				return false
			}
			if e.Kind == 3 && e.Allowed != mean.Allows(x.r.Versions[at].Policy, x.triple(e)) {
				return false
			}
		}
		if writes(e) && !slices.ContainsFunc(x.r.Versions, func(v api.Version) bool { return v.Point == e.Point && v.Number == e.Version }) {
			return false
		}
	}
	return true
}

func (x reckoned) revoked() bool {
	for _, revoke := range x.r.Events {
		if revoke.Kind != 6 || !well(revoke) {
			continue
		}
		t := x.triple(revoke)
		for _, e := range x.r.Events {
			if e.Kind == 3 && x.triple(e) == t && well(e) && e.Allowed && e.Began > revoke.Ended {
				if !slices.ContainsFunc(x.r.Versions, func(v api.Version) bool {
					return v.Point > revoke.Point && v.Point < e.Point && mean.Allows(v.Policy, t)
				}) {
					return false
				}
			}
			if reads(e) && e.Point >= 0 && e.Point < revoke.Point && !(e.Ended >= 0 && e.Ended < revoke.Ended) {
				return false
			}
		}
		was, is := x.counting(revoke.Point), x.putAt(revoke.Point)
		if was < 0 || is < 0 {
			return false
		}
		var left []api.Triple
		for _, other := range mean.Relation(x.r.Versions[was].Policy) {
			if other != t {
				left = append(left, other)
			}
		}
		if !slices.Equal(mean.Relation(x.r.Versions[is].Policy), left) {
			return false
		}
	}
	return true
}

func (x reckoned) unpoisoned() bool {
	for _, a := range x.r.Trace {
		if a.Kind == 1 && !a.Good {
			return false
		}
	}
	for _, e := range x.r.Events {
		if at := x.counting(e.Point); reads(e) && e.Point >= 0 && at >= 0 {
			if gone := x.r.Versions[at].Gone; gone >= 0 && (e.Ended < 0 || e.Ended >= gone) {
				return false
			}
		}
	}
	return true
}

func (x reckoned) few() bool {
	for i, live := range x.r.Live {
		most := 1
		for _, e := range x.r.Events {
			if writes(e) && e.Began <= i && (e.Ended < 0 || e.Ended > i) {
				most++
			}
		}
		if live > most {
			return false
		}
	}
	for _, e := range x.r.Events {
		if at := x.counting(e.Point); writes(e) && well(e) && at >= 0 {
			if gone := x.r.Versions[at].Gone; gone <= e.Point || gone > e.Ended {
				return false
			}
		}
	}
	return true
}

func (x reckoned) quick() bool {
	size := 0
	for _, v := range x.r.Versions {
		size = max(size, v.Size)
	}
	for _, a := range x.r.Trace {
		if a.Kind == 5 {
			size = max(size, a.Value)
		}
	}
	most := 11
	if size > 4 {
		most += 3 * ((size - 4) / 2)
	}
	for _, e := range x.r.Events {
		if reads(e) && (e.Steps > most || e.Ended < 0 && e.Steps >= most) {
			return false
		}
	}
	return true
}

// wantReckoned asks all that is asked of a run, and gives the breach.
func wantReckoned(t *testing.T, tasks [][]api.Op, r api.Run) int8 {
	t.Helper()
	x := reckoned{tasks, r}
	calls, places := judge.Calls(tasks, r)
	wantCalls, wantPlaces := x.calls()
	if !slices.Equal(places, wantPlaces) || !alike(calls, wantCalls) {
		t.Fatalf("Calls = %+v at %v, want %+v at %v", calls, places, wantCalls, wantPlaces)
	}
	want := api.BreachNone
	for _, row := range []struct {
		what      string
		got, want bool
		breach    int8
	}{
		{"Quick", judge.Quick(r), x.quick(), 5},
		{"Few", judge.Few(r), x.few(), 4},
		{"Unpoisoned", judge.Unpoisoned(r), x.unpoisoned(), 3},
		{"Revoked", judge.Revoked(tasks, r), x.revoked(), 2},
		{"Answers", judge.Answers(tasks, r), x.answers(), 1},
	} {
		if row.got != row.want {
			t.Fatalf("%s = %v: %+v, %+v", row.what, row.got, tasks, r)
		}
		if !row.want {
			want = row.breach
		}
	}
	if got := judge.Breach(tasks, r); got != want {
		t.Fatalf("Breach = %d, want %d: %+v, %+v", got, want, tasks, r)
	}
	return want
}

// alike takes no list and one without elements for one.
func alike(got, want []api.Call) bool {
	return slices.EqualFunc(got, want, func(a, b api.Call) bool {
		x, y := reflect.ValueOf(a.Policy), reflect.ValueOf(b.Policy)
		for i := range x.NumField() {
			if x.Field(i).Len() != y.Field(i).Len() || x.Field(i).Len() > 0 && !reflect.DeepEqual(x.Field(i).Interface(), y.Field(i).Interface()) {
				return false
			}
		}
		a.Policy, b.Policy = api.Policy{}, api.Policy{}
		return reflect.DeepEqual(a, b)
	})
}

// drawMoment is a moment of a run by hand, seldom one that can't be.
func drawMoment(d *dice) int {
	if d.yes(8) {
		return d.throw(4) - 3
	}
	return d.throw(20)
}

func drawEvent(d *dice) api.Event {
	e := api.Event{Task: d.throw(4) - 1, Number: d.throw(4) - 1, Kind: of(d, []int8{3, 3, 3, 7, 4, 5, 6, 6, 1, 9}), Began: drawMoment(d), Point: drawMoment(d), Version: 3 + d.throw(3), Allowed: d.yes(3), Hit: d.yes(3)}
	e.Ended = e.Point + d.throw(9) - 2
	e.Steps = of(d, []int{0, 5, 10, 11, 12, 13, 14, 17, 18, 19})
	if d.yes(6) {
		e.Ended = drawMoment(d)
	}
	if d.yes(8) {
		e.Code = api.ErrUnknown
	}
	e.Broken = d.yes(12)
	return e
}

// drawRun is a run by hand, of which little fits.
func drawRun(d *dice) ([][]api.Op, api.Run) {
	var tasks [][]api.Op
	for range d.throw(4) {
		var ops []api.Op
		for range d.throw(4) {
			ops = append(ops, api.Op{Kind: int8(d.throw(9)), Triple: on(of(d, []string{"x", "x", "y"}))})
		}
		tasks = append(tasks, ops)
	}
	var r api.Run
	for range d.throw(5) {
		r.Events = append(r.Events, drawEvent(d))
	}
	point := d.throw(3) - 2
	for i := range d.throw(4) {
		v := api.Version{Number: 3 + i, Size: of(d, []int{-7, 0, 4, 5, 6, 8, 9}), Point: point, Gone: drawMoment(d), Policy: allowing(of(d, drawnPolicies))}
		if d.yes(15) {
			v.Number += d.throw(3) - 1
		}
		point += d.throw(8)
		if d.yes(6) {
			point = drawMoment(d)
		}
		r.Versions = append(r.Versions, v)
	}
	for range d.throw(4) {
		r.Trace = append(r.Trace, api.Access{Kind: int8(d.throw(9)), Value: of(d, []int{-3, 0, 5, 7, 9}), Good: !d.yes(5)})
	}
	for range d.throw(20) {
		r.Live = append(r.Live, 1+d.throw(10)/8+d.throw(10)/9)
	}
	return tasks, r
}

// fit makes most of a drawn run hold together: each write that went well is one of the versions, in their order.
func fit(d *dice, tasks [][]api.Op, r *api.Run) {
	x := reckoned{tasks, *r}
	for i := range r.Events {
		e := &r.Events[i]
		if d.yes(7) {
			continue
		}
		e.Broken = false
		if writes(*e) && len(r.Versions) > 0 {
			v := of(d, r.Versions)
			e.Point, e.Version = v.Point, v.Number
			e.Began, e.Ended = v.Point-d.throw(3), v.Point+1+d.throw(4)
			if at := x.counting(e.Point); at >= 0 {
				r.Versions[at].Gone = e.Ended - d.throw(2)
			}
			continue
		}
		at := x.counting(e.Point)
		if reads(*e) && at >= 0 {
			e.Version = r.Versions[at].Number
			e.Allowed = mean.Allows(r.Versions[at].Policy, x.triple(*e)) && e.Kind == 3
		}
	}
}

func TestDrawnRunsByHand(t *testing.T) {
	n := map[int8]int{}
	kept := map[string]int{}
	for seed := range 60000 {
		d := dice(seed)
		tasks, r := drawRun(&d)
		if seed%4 > 0 {
			fit(&d, tasks, &r)
		}
		n[wantReckoned(t, tasks, r)]++
		count(kept, tasks, r)
	}
	for breach := range int8(6) {
		if n[breach] < 200 {
			t.Errorf("the breach %d: %d times", breach, n[breach])
		}
	}
	for _, what := range []string{"a revoke that stayed", "a revoke that did not", "few of many", "quick and in progress"} {
		if kept[what] < 100 {
			t.Errorf("%s: %d times", what, kept[what])
		}
	}
}

// count sees that what is asked was not asked in vain.
func count(n map[string]int, tasks [][]api.Op, r api.Run) {
	revoke := slices.ContainsFunc(r.Events, func(e api.Event) bool { return e.Kind == 6 && well(e) })
	if revoke && judge.Revoked(tasks, r) {
		n["a revoke that stayed"]++
	} else if revoke {
		n["a revoke that did not"]++
	}
	if slices.Contains(r.Live, 2) && slices.ContainsFunc(r.Events, writes) && judge.Few(r) {
		n["few of many"]++
	}
	if judge.Quick(r) && slices.ContainsFunc(r.Events, func(e api.Event) bool { return reads(e) && e.Ended < 0 && e.Steps > 9 }) {
		n["quick and in progress"]++
	}
}
