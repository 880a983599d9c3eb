package bits_test

import (
	"slices"
	"testing"

	"gatehouse/bits"
)

// pairing is a call that lays one set on another, and what it leaves in the plainest words.
type pairing struct {
	name string
	call func(s, o *bits.Set) bool
	stay func(inOwn, inOther bool) bool
}

func pairings() []pairing {
	return []pairing{
		{"Join", (*bits.Set).Join, func(own, other bool) bool { return own || other }},
		{"Meet", (*bits.Set).Meet, func(own, other bool) bool { return own && other }},
		{"Less", (*bits.Set).Less, func(own, other bool) bool { return own && !other }},
	}
}

// sown is a set with numbers strewn by a rule: about one in each sparse.
func sown(room, seed, sparse int) *bits.Set {
	s := bits.New(room)
	x := uint32(seed)*2654435761 + 12345
	for i := range room {
		x = x*1664525 + 1013904223
		if int(x>>16)%sparse == 0 {
			s.Add(i)
		}
	}
	return s
}

// 3.3

func TestPairsOfAllRooms(t *testing.T) {
	for _, p := range pairings() {
		for _, room := range smallRooms() {
			for _, other := range smallRooms() {
				for sparse := 1; sparse <= 9; sparse += 4 {
					checkPairing(t, p, sown(room, room+sparse, 3), sown(other, other-sparse, sparse))
					checkPairing(t, p, sown(room, room+sparse, sparse), sown(other, other-sparse, 3))
				}
				checkPairing(t, p, bits.New(room), full(other))
				checkPairing(t, p, full(room), bits.New(other))
			}
		}
	}
}

func checkPairing(t *testing.T, p pairing, s, o *bits.Set) {
	t.Helper()
	was, others := listed(s), listed(o)
	var want []int
	for i := range s.Room() {
		if p.stay(s.Has(i), o.Has(i)) {
			want = append(want, i)
		}
	}
	got := p.call(s, o)
	if got != !slices.Equal(was, want) {
		t.Errorf("%s of rooms %d and %d: %v", p.name, s.Room(), o.Room(), got)
	}
	wants(t, p.name, s, want...)
	wants(t, p.name+": the other set", o, others...)
	if again := p.call(s, o); again {
		t.Errorf("%s of rooms %d and %d, once more: %v", p.name, s.Room(), o.Room(), again)
	}
}

func TestPairsWithTheSetItself(t *testing.T) {
	for _, room := range smallRooms() {
		s := sown(room, 7, 2)
		was := listed(s)
		if s.Join(s) || s.Meet(s) {
			t.Errorf("room %d: Join or Meet with itself changed it", room)
		}
		wants(t, "itself", s, was...)
		if got := s.Less(s); got != (len(was) > 0) {
			t.Errorf("room %d with %d: Less(itself) = %v", room, len(was), got)
		}
		wants(t, "less itself", s)
		if s.Less(s) || s.Join(s) || s.Meet(s) {
			t.Errorf("room %d: an empty set changed by itself", room)
		}
	}
}

func TestPairsWithNone(t *testing.T) {
	for _, room := range smallRooms() {
		s := sown(room, 7, 2)
		was := listed(s)
		if s.Join(nil) || s.Less(nil) {
			t.Errorf("room %d: Join(nil) or Less(nil) changed it", room)
		}
		wants(t, "with none", s, was...)
		if got := s.Meet(nil); got != (len(was) > 0) {
			t.Errorf("room %d with %d: Meet(nil) = %v", room, len(was), got)
		}
		wants(t, "met with none", s)
		if s.Meet(nil) || s.Join(nil) || s.Less(nil) {
			t.Errorf("room %d: an empty set changed by none", room)
		}
	}
}

func TestWhatTheRoomDoesNotReachNeverComesBack(t *testing.T) {
	for _, room := range smallRooms() {
		s := bits.New(room)
		s.Join(full(65536))
		all := listed(full(room))
		wants(t, "joined with all", s, all...)
		s.Meet(full(65536))
		wants(t, "met with all", s, all...)
		wide := bits.New(700)
		wide.Join(s)
		wants(t, "a wider set", wide, all...)
	}
}

func TestAChangeAnywhereIsTold(t *testing.T) {
	for i := range 600 {
		one := setOf(600, i)
		s := bits.New(600)
		if !s.Join(one) || s.Join(one) || s.Meet(one) || !s.Less(one) || s.Less(one) {
			t.Errorf("the one number %d", i)
		}
		s = full(600)
		if s.Join(one) || !s.Less(one) || !s.Join(one) || !s.Meet(one) || s.Count() != 1 || !s.Has(i) {
			t.Errorf("the one number %d of all", i)
		}
	}
}

func TestAJoinThatHasNoRoomChangesNothing(t *testing.T) {
	s := setOf(4, 1, 3)
	if s.Join(setOf(70, 1, 4, 5, 63, 64, 69)) {
		t.Error("Join of what there is no room for")
	}
	wants(t, "joined", s, 1, 3)
}

func TestExampleOfPairs(t *testing.T) {
	s, u := setOf(70, 3, 69), setOf(4, 1, 3)
	for i, got := range []bool{s.Join(u), s.Join(u), u.Join(s), u.Meet(s)} {
		if got != (i == 0) {
			t.Errorf("call %d: %v", i, got)
		}
	}
	wants(t, "s joined", s, 1, 3, 69)
	wants(t, "t", u, 1, 3)
	if !s.Less(u) {
		t.Error("s.Less(t)")
	}
	wants(t, "s less t", s, 69)
	for i, got := range []bool{s.Less(s), s.Less(s), s.Join(nil), s.Meet(nil)} {
		if got != (i == 0) {
			t.Errorf("call %d behind it: %v", i, got)
		}
	}
}

// A long row of calls, held against a plain list of what is in.
func TestManyCallsInARow(t *testing.T) {
	s, other := bits.New(130), bits.New(200)
	in := make([]bool, 130)
	x := uint32(1)
	for range 20000 {
		x = x*1664525 + 1013904223
		i := int(x>>16)%140 - 5
		fits := i >= 0 && i < 130
		var want, got bool
		switch x >> 8 % 4 {
		case 0, 1:
			want, got = fits && !in[max(0, min(i, 129))], s.Add(i)
			if fits {
				in[i] = true
			}
		case 2:
			want, got = fits && in[max(0, min(i, 129))], s.Drop(i)
			if fits {
				in[i] = false
			}
		default:
			p := pairings()[int(x>>24)%3]
			other.Less(other)
			for n := range 4 {
				other.Add(i*7 + n*31)
			}
			for n := range in {
				stays := p.stay(in[n], other.Has(n))
				want = want || stays != in[n]
				in[n] = stays
			}
			got = p.call(s, other)
		}
		if got != want {
			t.Fatalf("a call with %d: %v, want %v", i, got, want)
		}
		for n := range in {
			if s.Has(n) != in[n] {
				t.Fatalf("behind a call with %d: Has(%d) = %v", i, n, s.Has(n))
			}
		}
	}
}
