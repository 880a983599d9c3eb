package delta_test

import (
	"reflect"
	"testing"

	"gatehouse/api"
	"gatehouse/delta"
)

// A second reckoning: which field of the delta goes into which list, by their names.

type way struct {
	list, field string
	none        api.Errno
}

func puts() map[int8]way {
	return map[int8]way{1: {"Rules", "Rule", 0}, 4: {"Roles", "Name", 0}, 5: {"Objects", "Name", 0}, 6: {"Groups", "Name", 0},
		7: {"Members", "Pair", 0}, 8: {"Inherits", "Pair", 0}, 9: {"Parts", "Pair", 0}, 10: {"Withins", "Pair", 0}, 15: {"Excepts", "Triple", 0}}
}

func takes() map[int8]way {
	return map[int8]way{11: {"Members", "Pair", 91}, 12: {"Inherits", "Pair", 91}, 13: {"Parts", "Pair", 91}, 14: {"Withins", "Pair", 91}, 16: {"Excepts", "Triple", 92}}
}

// remade is a list of those things whose number is kept, with one behind them, if there is one.
func remade(list reflect.Value, keep func(i int) bool, more ...reflect.Value) reflect.Value {
	l := reflect.MakeSlice(list.Type(), 0, 0)
	for i := range list.Len() {
		if keep(i) {
			l = reflect.Append(l, list.Index(i))
		}
	}
	return reflect.Append(l, more...)
}

func slowChange(p api.Policy, d api.Delta) (api.Policy, api.Errno) {
	v := reflect.ValueOf(&p).Elem()
	of := reflect.ValueOf(d)
	every := func(int) bool { return true }
	if w, ok := puts()[d.Kind]; ok {
		v.FieldByName(w.list).Set(remade(v.FieldByName(w.list), every, of.FieldByName(w.field)))
		return p, 0
	}
	if w, ok := takes()[d.Kind]; ok {
		list, n := v.FieldByName(w.list), v.FieldByName(w.list).Len()
		list.Set(remade(list, func(i int) bool { return list.Index(i).Interface() != of.FieldByName(w.field).Interface() }))
		if list.Len() == n {
			return api.Policy{}, w.none
		}
		return p, 0
	}
	n := len(p.Rules)
	switch d.Kind {
	case 2:
		v.FieldByName("Rules").Set(remade(v.FieldByName("Rules"), func(i int) bool { return i+1 != d.At }))
		if len(p.Rules) == n {
			return api.Policy{}, 90
		}
		return p, 0
	case 3:
		p.Subjects = remade(v.FieldByName("Subjects"), every, reflect.ValueOf(api.Subject{Name: d.Name, Trust: d.Trust})).Interface().([]api.Subject)
		return p, 0
	case 17:
		p.Subjects = remade(v.FieldByName("Subjects"), every).Interface().([]api.Subject)
		for i := range p.Subjects {
			if p.Subjects[i].Name == d.Name {
				p.Subjects[i].Trust = d.Trust
				return p, 0
			}
		}
		return api.Policy{}, 60
	}
	return api.Policy{}, 93
}

func slowOne(p api.Policy, d api.Delta) (api.Policy, api.Errno) {
	if e := code(p); e != 0 {
		return api.Policy{}, e
	}
	q, e := slowChange(p, d)
	if e == 0 {
		e = code(q)
	}
	if e != 0 {
		return api.Policy{}, e
	}
	return q, 0
}

// dice is a row of numbers that is the same in each run.
type dice uint64

func (d *dice) throw(n int) int {
	*d = *d*6364136223846793005 + 1442695040888963407
	return int(uint64(*d>>33) % uint64(n))
}

// of is one of several things.
func of[T any](d *dice, things ...T) T { return things[d.throw(len(things))] }

// strange is now and then a name that does not fit.
func (d *dice) strange(name string) string {
	if d.throw(12) == 0 {
		return of(d, "ann", "r", "door", "g", "open", "x", "")
	}
	return name
}

func (d *dice) subject() string { return d.strange(of(d, "ann", "ann", "bob", "eve")) }
func (d *dice) role() string    { return d.strange(of(d, "r", "r", "s", "t")) }
func (d *dice) object() string  { return d.strange(of(d, "door", "door", "hall", "safe")) }
func (d *dice) group() string   { return d.strange(of(d, "g", "g", "h", "i")) }
func (d *dice) action() string  { return d.strange(of(d, "open", "open", "read", "shut")) }

func (d *dice) rule() api.Rule {
	r := api.Rule{Deny: d.throw(3) == 0, Who: of(d, d.subject(), d.role()), What: of(d, d.object(), d.group()), Cond: of[int8](d, 0, 0, 0, 1, 2, 3)}
	for range d.throw(3) {
		r.Actions = append(r.Actions, d.action())
	}
	if r.Cond != 0 || d.throw(9) == 0 {
		r.Level = of(d, 0, 0.25, 0.5, 1, -1)
	}
	return r
}

// delta is one of few names, with something in each field.
func (d *dice) delta() api.Delta {
	x := api.Delta{Kind: int8(d.throw(19)), Rule: d.rule(), At: d.throw(5), Trust: of(d, 0, 0.25, 0.5, 1, 2)}
	x.Name = [...]string{d.subject(), d.role(), d.object(), d.group()}[max(0, min(x.Kind, api.DeltaGroup)-api.DeltaSubject)]
	if x.Kind == api.DeltaTrust {
		x.Name = d.subject()
	}
	x.Pair = [...]api.Pair{{From: d.subject(), To: d.role()}, {From: d.role(), To: d.role()}, {From: d.object(), To: d.group()}, {From: d.group(), To: d.group()}}[(x.Kind+1)%4]
	x.Triple = api.Triple{Subject: d.subject(), Object: d.object(), Action: d.action()}
	return x
}

// policy is a right one, made by deltas that the second reckoning takes.
func (d *dice) policy(t *testing.T) api.Policy {
	t.Helper()
	p := load(t, of(d, "", "action open; subject ann; role r; object door; group g;", "action open, read; subject ann, bob trust 0.5; role r, s; object door, hall; group g, h;", "action read, open, shut; subject bob; role r; object door; group g; member bob : r; part door : g; allow r on g : *;"))
	for range d.throw(30) {
		if q, e := slowOne(p, d.delta()); e == 0 {
			p = q
		}
	}
	return p
}

func TestOneAgainstASlowOne(t *testing.T) {
	d := dice(4)
	seen := map[api.Errno]int{}
	for range 300 {
		p := d.policy(t)
		for range 60 {
			x := d.delta()
			want, refused := slowOne(p, x)
			got, e := delta.One(p, x)
			if e != refused || !same(got, want) {
				t.Fatalf("One(%+v, %+v) = %+v, %d, want %+v, %d", p, x, got, e, want, refused)
			}
			seen[e]++
		}
	}
	for _, e := range []api.Errno{0, 1, 10, 23, 60, 61, 90, 91, 92, 93} {
		if seen[e] < 20 {
			t.Errorf("%d times the number %d", seen[e], e)
		}
	}
}

func TestApplyAgainstASlowOne(t *testing.T) {
	d := dice(5)
	places := map[int]int{}
	for range 3000 {
		p := d.policy(t)
		var list []api.Delta
		for range d.throw(12) {
			if x := d.delta(); d.throw(12) == 0 {
				list = append(list, x)
			} else if _, e := slowOne(p, x); e == 0 {
				list = append(list, x)
			}
		}
		want, at, refused := p, 0, api.OK
		for ; at < len(list) && refused == 0; at++ {
			want, refused = slowOne(want, list[at])
		}
		if refused != 0 {
			at--
		}
		got, n, e := delta.Apply(p, list)
		if e != refused || n != at || !same(got, want) {
			t.Fatalf("Apply(%+v, %+v) = %+v, %d, %d, want %+v, %d, %d", p, list, got, n, e, want, at, refused)
		}
		places[n]++
	}
	for at := range 4 {
		if places[at] < 50 {
			t.Errorf("%d times the place %d", places[at], at)
		}
	}
}

// Policies that were spoilt by one thing: the fault of the policy comes first.
func TestOneOfSpoiltPolicies(t *testing.T) {
	d := dice(6)
	spoilt := 0
	for range 1000 {
		p, e := slowChange(d.policy(t), d.delta())
		if e != 0 || code(p) == 0 {
			continue
		}
		spoilt++
		wantRefused(t, p, d.delta(), code(p))
		x := d.delta().Triple
		if got, e := delta.Revoke(p, x); e != code(p) || !empty(got) {
			t.Errorf("Revoke(%+v, %v) = %+v, %d, want %d", p, x, got, e, code(p))
		}
	}
	if spoilt < 100 {
		t.Errorf("%d policies were spoilt", spoilt)
	}
}
