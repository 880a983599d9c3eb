package bits_test

import (
	"iter"
	"slices"
	"testing"

	"gatehouse/bits"
)

// 3.4

func TestEachRises(t *testing.T) {
	for _, c := range []struct {
		room int
		put  []int
		want []int
	}{
		{0, nil, nil},
		{300, nil, nil},
		{1, []int{0}, []int{0}},
		{300, []int{299, 64, 0, 63, 256, 255, 128, 127, 65}, []int{0, 63, 64, 65, 127, 128, 255, 256, 299}},
		{65536, []int{65535, 65472, 65471, 0}, []int{0, 65471, 65472, 65535}},
	} {
		if got := listed(setOf(c.room, c.put...)); !slices.Equal(got, c.want) {
			t.Errorf("room %d with %v: %v, want %v", c.room, c.put, got, c.want)
		}
	}
}

func TestEachOfFullSets(t *testing.T) {
	for _, room := range rooms() {
		next := 0
		for i := range full(room).Each() {
			if i != next {
				t.Fatalf("room %d: %d where %d is next", room, i, next)
			}
			next++
		}
		if next != room {
			t.Errorf("room %d: %d numbers", room, next)
		}
	}
}

func TestEachIsNeverNil(t *testing.T) {
	for _, room := range []int{-1, 0, 1, 65536} {
		each := bits.New(room).Each()
		if each == nil {
			t.Fatalf("room %d: nil", room)
		}
		each(func(i int) bool {
			t.Errorf("room %d: %d", room, i)
			return true
		})
	}
}

func TestEachStopped(t *testing.T) {
	each := setOf(300, 2, 5, 64, 256, 299).Each()
	want := []int{2, 5, 64, 256, 299}
	for n := 1; n <= len(want); n++ {
		var got []int
		each(func(i int) bool {
			got = append(got, i)
			return len(got) < n
		})
		if !slices.Equal(got, want[:n]) {
			t.Errorf("stopped behind %d: %v", n, got)
		}
	}
	if got := slices.Collect(each); !slices.Equal(got, want) {
		t.Errorf("gone over again: %v", got)
	}
	if got := slices.Collect(each); !slices.Equal(got, want) {
		t.Errorf("gone over a second time: %v", got)
	}
}

func TestEachIsAsAtTheCall(t *testing.T) {
	for name, change := range map[string]func(*bits.Set){
		"Add":  func(s *bits.Set) { s.Add(9) },
		"Drop": func(s *bits.Set) { s.Drop(5) },
		"Join": func(s *bits.Set) { s.Join(full(300)) },
		"Meet": func(s *bits.Set) { s.Meet(nil) },
		"Less": func(s *bits.Set) { s.Less(s) },
	} {
		s := setOf(300, 2, 5, 64, 256, 299)
		want := listed(s)
		each := s.Each()
		change(s)
		if got := slices.Collect(each); !slices.Equal(got, want) {
			t.Errorf("%s ahead of the going over: %v", name, got)
		}
		if got := listed(s); slices.Equal(got, want) {
			t.Errorf("%s: a new iterator goes over the old numbers", name)
		}
	}
}

func TestEachWhileTheSetChanges(t *testing.T) {
	s := setOf(300, 2, 5, 64, 256, 299)
	want := listed(s)
	var got []int
	for i := range s.Each() {
		s.Add(i + 1)
		s.Drop(5)
		s.Drop(256)
		got = append(got, i)
	}
	if !slices.Equal(got, want) {
		t.Errorf("gone over: %v, want %v", got, want)
	}
	wants(t, "behind it", s, 2, 3, 6, 64, 65, 257, 299)
}

func TestTwoGoOverOneIterator(t *testing.T) {
	each := setOf(300, 2, 5, 299).Each()
	next, stop := iter.Pull(each)
	defer stop()
	for _, want := range []int{2, 5, 299} {
		if got, ok := next(); got != want || !ok {
			t.Errorf("the first one: %d, %v, want %d", got, ok, want)
		}
		if got := slices.Collect(each); !slices.Equal(got, []int{2, 5, 299}) {
			t.Errorf("the second one: %v", got)
		}
	}
}
