package reach_test

import (
	"slices"
	"strings"
	"testing"

	"gatehouse/api"
	"gatehouse/reach"
)

// pairs are pairs written as "a>b a>c"; a name may be empty, as in ">b".
func pairs(text string) []api.Pair {
	var l []api.Pair
	for _, w := range strings.Fields(text) {
		from, to, _ := strings.Cut(w, ">")
		l = append(l, api.Pair{From: from, To: to})
	}
	return l
}

// written are pairs as they stand in a message.
func written(l []api.Pair) string {
	var words []string
	for _, p := range l {
		words = append(words, p.From+">"+p.To)
	}
	return strings.Join(words, " ")
}

// listed are names as they stand in a table.
func listed(names []string) string { return strings.Join(names, " ") }

// dice is a row of numbers that is the same in each run.
type dice uint64

func (d *dice) throw(n int) int {
	*d = *d*6364136223846793005 + 1442695040888963407
	return int(uint64(*d>>33) % uint64(n))
}

// thrown are some pairs over the first names of the alphabet.
func (d *dice) thrown(names, most int) []api.Pair {
	name := func() string { return string(rune('a' + d.throw(names))) }
	var l []api.Pair
	for range d.throw(most + 1) {
		l = append(l, api.Pair{From: name(), To: name()})
	}
	return l
}

// web are the pairs of the chapter's examples.
const web = "a>b a>c b>d c>d d>a c>e f>f g>a"

func TestTheExamplesOfTheChapter(t *testing.T) {
	l := pairs(web)
	for from, want := range map[string]string{"a": "a b c d e", "d": "d a b c e", "e": "e", "x": "x"} {
		if got := listed(reach.Up(l, from)); got != want {
			t.Errorf("Up %s: %s, want %s", from, got, want)
		}
	}
	for ends, want := range map[[2]string]string{{"a", "d"}: "a b d", {"d", "e"}: "d a c e", {"a", "a"}: "a", {"x", "x"}: "x", {"e", "a"}: ""} {
		if got := listed(reach.Path(l, ends[0], ends[1])); got != want {
			t.Errorf("Path %v: %s, want %s", ends, got, want)
		}
	}
	wantUps(t, l, "a b c d f g")
	for text, want := range map[string]string{web: "{a b c d} {f}", "b>a c>d a>b d>c": "{b a} {c d}", "a>b b>c": "", "": ""} {
		wantRings(t, pairs(text), want)
	}
	if got := reach.Up(nil, ""); !slices.Equal(got, []string{""}) {
		t.Errorf("Up of none: %q", got)
	}
}
