package bits_test

import (
	"math"
	"slices"
	"testing"

	"gatehouse/api"
	"gatehouse/bits"
)

// rooms are such as lie at the edges of words and of fours of words.
func rooms() []int {
	return []int{0, 1, 2, 63, 64, 65, 127, 128, 129, 191, 192, 193, 255, 256, 257, 320, 511, 512, 513, 65535, 65536}
}

// smallRooms are those of which every number can be tried against every other set.
func smallRooms() []int {
	return []int{0, 1, 63, 64, 65, 128, 255, 256, 257, 600}
}

func setOf(room int, list ...int) *bits.Set {
	s := bits.New(room)
	for _, i := range list {
		s.Add(i)
	}
	return s
}

// full is a set that holds all it has room for.
func full(room int) *bits.Set {
	s := bits.New(room)
	for i := range room {
		s.Add(i)
	}
	return s
}

func listed(s *bits.Set) []int { return slices.Collect(s.Each()) }

// wants tells by all the calls that a set holds these numbers and no others.
func wants(t *testing.T, what string, s *bits.Set, want ...int) {
	t.Helper()
	if got := listed(s); !slices.Equal(got, want) {
		t.Errorf("%s: Each() goes over %v, want %v", what, got, want)
	}
	if got := s.Count(); got != len(want) {
		t.Errorf("%s: Count() = %d, want %d", what, got, len(want))
	}
	in := map[int]int{}
	for _, i := range want {
		in[i] = 1
	}
	for i := -2; i < s.Room()+260; i++ {
		if got := s.Has(i); got != (in[i] == 1) {
			t.Errorf("%s: Has(%d) = %v", what, i, got)
		}
	}
	for k := 0; k <= s.Room()/256+1; k++ {
		q, _ := s.Quad(k)
		for b := range 256 {
			if got := q[b/64]>>(b%64)&1 == 1; got != (in[256*k+b] == 1) {
				t.Errorf("%s: in Quad(%d) the number %d is in: %v", what, k, 256*k+b, got)
			}
		}
	}
}

// 3.1

func TestNewHasTheRoomThatIsAskedFor(t *testing.T) {
	for _, n := range rooms() {
		s := bits.New(n)
		if s.Room() != n {
			t.Errorf("New(%d).Room() = %d", n, s.Room())
		}
		if s.Count() != 0 || len(listed(s)) != 0 {
			t.Errorf("New(%d) holds %v", n, listed(s))
		}
	}
}

func TestNewOutsideTheLimits(t *testing.T) {
	for _, c := range []struct{ n, want int }{
		{-1, 0}, {-3, 0}, {-64, 0}, {-65536, 0}, {math.MinInt, 0}, {math.MinInt + 1, 0},
		{65535, 65535}, {65536, 65536}, {65537, 65536}, {65536 + 256, 65536}, {1 << 31, 65536}, {1 << 32, 65536}, {math.MaxInt, 65536},
	} {
		s := bits.New(c.n)
		if s.Room() != c.want {
			t.Errorf("New(%d).Room() = %d, want %d", c.n, s.Room(), c.want)
		}
		if s.Add(c.want) || s.Add(c.want-1) != (c.want > 0) {
			t.Errorf("New(%d): what goes in is not what the room %d reaches", c.n, c.want)
		}
	}
	if api.MaxWords != 65536 {
		t.Errorf("api.MaxWords = %d", api.MaxWords)
	}
}

func TestTwoSetsShareNothing(t *testing.T) {
	a, b := bits.New(70), bits.New(70)
	a.Add(3)
	a.Add(69)
	wants(t, "the other", b)
	b.Join(a)
	b.Drop(3)
	wants(t, "the first", a, 3, 69)
	a.Less(a)
	wants(t, "the other", b, 69)
}

func TestRoomNeverChanges(t *testing.T) {
	s := bits.New(70)
	s.Add(70)
	s.Join(full(300))
	s.Meet(full(10))
	s.Less(full(5))
	if s.Room() != 70 {
		t.Errorf("Room() = %d", s.Room())
	}
}

// 3.2

func TestEveryNumberGoesInAndOut(t *testing.T) {
	for _, room := range rooms() {
		s := bits.New(room)
		for i := range room {
			if s.Has(i) || s.Drop(i) {
				t.Fatalf("room %d: %d is in from the start", room, i)
			}
			if !s.Add(i) || s.Add(i) || !s.Has(i) || s.Count() != 1 {
				t.Fatalf("room %d: Add(%d)", room, i)
			}
			if i+1 < room && s.Has(i+1) {
				t.Fatalf("room %d: Add(%d) put %d in", room, i, i+1)
			}
			if !s.Drop(i) || s.Drop(i) || s.Has(i) || s.Count() != 0 {
				t.Fatalf("room %d: Drop(%d)", room, i)
			}
		}
	}
}

func TestFullSets(t *testing.T) {
	for _, room := range rooms() {
		s := full(room)
		if s.Count() != room {
			t.Errorf("room %d: Count() = %d", room, s.Count())
		}
		for _, i := range []int{0, 63, 64, room / 2, room - 1} {
			if i < 0 || i >= room {
				continue
			}
			if !s.Drop(i) || s.Has(i) || s.Count() != room-1 || !s.Add(i) {
				t.Errorf("room %d: Drop(%d) of a full set", room, i)
			}
		}
	}
}

func TestNumbersThatTheRoomDoesNotReach(t *testing.T) {
	for _, room := range rooms() {
		s := full(room)
		for _, i := range []int{-1, -2, -63, -64, -65, -256, math.MinInt, math.MinInt + 63, room, room + 1, room + 63, room + 64, room + 256, room + 65536, 1 << 32, 1<<32 + 1, math.MaxInt} {
			if s.Add(i) || s.Has(i) || s.Drop(i) {
				t.Errorf("room %d: the number %d is taken", room, i)
			}
		}
		if s.Count() != room {
			t.Errorf("room %d: Count() = %d behind numbers that are never in", room, s.Count())
		}
	}
}

func TestExampleOfNumbers(t *testing.T) {
	s := bits.New(70)
	for _, c := range []struct {
		i    int
		want bool
	}{{3, true}, {3, false}, {69, true}, {70, false}, {-1, false}} {
		if got := s.Add(c.i); got != c.want {
			t.Errorf("Add(%d) = %v", c.i, got)
		}
	}
	wants(t, "the example", s, 3, 69)
}

// 3.5

func TestQuadTellsWordsInTheirOrder(t *testing.T) {
	s := setOf(600, 0, 65, 130, 195, 256, 258, 320, 383, 511, 512, 599)
	for k, want := range [][4]uint64{
		{1, 2, 4, 8},
		{5, 1 | 1<<63, 0, 1 << 63},
		{1, 1 << 23, 0, 0},
	} {
		if got, ok := s.Quad(k); got != want || !ok {
			t.Errorf("Quad(%d) = %v, %v, want %v", k, got, ok, want)
		}
	}
}

func TestQuadAtEveryPlace(t *testing.T) {
	for _, room := range rooms() {
		s := full(room)
		for k := range 258 {
			var want [4]uint64
			for b := range 256 {
				if 256*k+b < room {
					want[b/64] |= 1 << (b % 64)
				}
			}
			if got, ok := s.Quad(k); got != want || ok != (256*k < room) {
				t.Errorf("room %d: Quad(%d) = %x, %v", room, k, got, ok)
			}
		}
	}
}

func TestQuadOfAnEmptySet(t *testing.T) {
	for _, c := range []struct {
		room, k int
		want    bool
	}{
		{0, 0, false}, {1, 0, true}, {256, 0, true}, {256, 1, false}, {257, 1, true}, {257, 2, false},
		{65536, 255, true}, {65536, 256, false}, {65280, 255, false}, {65281, 255, true}, {-3, 0, false},
	} {
		if got, ok := bits.New(c.room).Quad(c.k); got != [4]uint64{} || ok != c.want {
			t.Errorf("New(%d).Quad(%d) = %v, %v", c.room, c.k, got, ok)
		}
	}
}

func TestQuadFarOutside(t *testing.T) {
	for _, room := range rooms() {
		s := full(room)
		for _, k := range []int{-1, -2, -4, -256, math.MinInt, math.MinInt / 4, math.MinInt / 256, 257, 1 << 54, 1 << 55, 1 << 56, 1 << 60, 1 << 62, math.MaxInt / 4, math.MaxInt/4 + 1, math.MaxInt} {
			if got, ok := s.Quad(k); got != [4]uint64{} || ok {
				t.Errorf("room %d: Quad(%d) = %v, %v", room, k, got, ok)
			}
		}
	}
}

func TestQuadSharesNothingWithTheSet(t *testing.T) {
	s := setOf(70, 3, 69)
	q, _ := s.Quad(0)
	q[0] = math.MaxUint64
	wants(t, "behind a change of the answer", s, 3, 69)
	q, _ = s.Quad(0)
	s.Add(4)
	if q != [4]uint64{8, 32, 0, 0} {
		t.Errorf("the answer changed with the set: %v", q)
	}
}
