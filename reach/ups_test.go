package reach_test

import (
	"maps"
	"slices"
	"testing"

	"gatehouse/api"
	"gatehouse/reach"
)

// wantUps: these names and no others, each with its Up.
func wantUps(t *testing.T, l []api.Pair, names string) {
	t.Helper()
	got := reach.Ups(l)
	if keys := listed(slices.Sorted(maps.Keys(got))); keys != names {
		t.Errorf("%s: lists of %q, want %q", written(l), keys, names)
	}
	for name, list := range got {
		if want := reach.Up(l, name); !slices.Equal(list, want) {
			t.Errorf("%s: %s has %q, want %q", written(l), name, list, want)
		}
	}
}

func TestUps(t *testing.T) {
	for text, names := range map[string]string{
		"":                    "",
		"a>b":                 "a",
		"a>b b>c":             "a b",
		"b>c a>b":             "a b",
		"a>a":                 "a",
		"a>b a>b":             "a",
		"a>b b>a":             "a b",
		"a>b b>c c>b":         "a b c",
		"a>b c>d d>c e>e x>y": "a c d e x",
		"a>":                  "a",
	} {
		wantUps(t, pairs(text), names)
	}
	if got := reach.Ups(nil); len(got) != 0 {
		t.Errorf("of none: %v", got)
	}
}

func TestUpsHasWhatIsReached(t *testing.T) {
	got := reach.Ups(pairs("a>b b>c c>b d>a"))
	want := map[string]string{"a": "a b c", "b": "b c", "c": "c b", "d": "d a b c"}
	if len(got) != len(want) {
		t.Errorf("%v", got)
	}
	for name, list := range want {
		if listed(got[name]) != list {
			t.Errorf("%s has %v, want %s", name, got[name], list)
		}
	}
}

// The empty name is a name as others are: a From or none.
func TestUpsOfTheEmptyName(t *testing.T) {
	got := reach.Ups(pairs(">a a>b"))
	if len(got) != 2 || !slices.Equal(got[""], []string{"", "a", "b"}) {
		t.Errorf("%q", got)
	}
	if _, has := reach.Ups(pairs("a>"))[""]; has {
		t.Error("the empty name is no From here")
	}
}
