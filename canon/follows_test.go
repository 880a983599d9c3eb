package canon_test

import (
	"math"
	"slices"
	"strconv"
	"strings"
	"testing"

	"gatehouse/api"
	"gatehouse/canon"
	"gatehouse/parse"
)

// read is what layer 4 reads of a text, without its places.
func read(t *testing.T, text string) []api.Decl {
	t.Helper()
	l, err := parse.Parse(text)
	if err != nil {
		t.Fatalf("%q: %v", text, err)
	}
	for i := range l {
		l[i].Line, l[i].Col = 0, 0
		l[i].Head.Line, l[i].Head.Col = 0, 0
		l[i].On.Line, l[i].On.Col = 0, 0
		for j := range l[i].Names {
			l[i].Names[j].Line, l[i].Names[j].Col = 0, 0
		}
	}
	return l
}

func written(t *testing.T, l []api.Decl) string {
	t.Helper()
	var b strings.Builder
	for _, d := range l {
		line, e := canon.Decl(d)
		if e != api.OK {
			t.Fatalf("%v: %v", d, e)
		}
		b.WriteString(line + "\n")
	}
	return b.String()
}

func TestADeclarationIsReadBack(t *testing.T) {
	d := dice(17)
	for range 20000 {
		c := thrown(&d)
		text, e := canon.Decl(c)
		if e != api.OK {
			continue
		}
		if strings.Contains(text, "\n") {
			t.Fatalf("%q has more than a line", text)
		}
		if l := read(t, text); len(l) != 1 || !same(l[0], said(c)) {
			t.Fatalf("%v\nis written %q\nand read %v", c, text, l)
		}
	}
}

// policies are full with all good names in turn in each place of a name, and levels in each place of one.
func policies() []api.Policy {
	var out []api.Policy
	for i, s := range goodNames() {
		p := full()
		p.Actions[0], p.Subjects[0].Name, p.Roles[1], p.Objects[0], p.Groups[1] = s, s, s, s, s
		p.Members[0].From, p.Inherits[0].To, p.Parts[1].From, p.Withins[0].To = s, s, s, s
		p.Rules[0].Who, p.Rules[1].What, p.Excepts[0] = s, s, api.Triple{Subject: s, Object: s, Action: s}
		p.Rules[0].Actions[i%2] = s
		level := float64(i) / 64
		p.Subjects[1].Trust, p.Rules[0].Level, p.Rules[2].Level = level, 1-level, level
		out = append(out, p, api.Policy{Rules: p.Rules}, api.Policy{Subjects: p.Subjects, Withins: p.Withins})
	}
	return append(out, api.Policy{})
}

func TestAPolicyIsReadBack(t *testing.T) {
	for _, p := range policies() {
		text, e := canon.Text(p)
		if e != api.OK {
			t.Fatalf("%v: %v", p, e)
		}
		l := read(t, text)
		if !slices.EqualFunc(l, canon.Decls(p), same) {
			t.Fatalf("%v\nis written %q\nand read %v", p, text, l)
		}
		if again := written(t, l); again != text {
			t.Fatalf("%q\nis written again %q", text, again)
		}
	}
}

// What parse reads has a text, also where it was written in another way.
func TestWhatIsReadHasAText(t *testing.T) {
	for text, want := range map[string]string{
		"action open,read;action\n\twrite ;":        "action open, read;\naction write;\n",
		"subject a trust 1;":                        "subject a;\n",
		"subject a trust 1 ; subject b trust 0.0;":  "subject a;\nsubject b trust 0;\n",
		"subject a trust 0.500000000;":              "subject a trust 0.5;\n",
		"role \"clerk\", \"role\";":                 "role clerk, \"role\";\n",
		"allow \"a\"on b:*above 0.250 ; # a remark": "allow a on b : * above 0.25;\n",
		"deny a on b:c,d below 0.000000000;":        "deny a on b : c, d below 0;\n",
		"member a:b; inherit b:c;":                  "member a : b;\ninherit b : c;\n",
		"part a:b,c,\"\\\"\"; within a : b;":        "part a : b, c, \"\\\"\";\nwithin a : b;\n",
		"except a on b : c\n\n, d\n;":               "except a on b : c, d;\n",
		`group "\u{61}b", "\u{72}ole", "a\u{22}b";`: `group ab, "role", "a\"b";` + "\n",
		"# nothing": "",
	} {
		if got := written(t, read(t, text)); got != want {
			t.Errorf("%q is written again %q, want %q", text, got, want)
		}
	}
	d := dice(23)
	for range 20000 {
		n := strconv.Itoa(1e9 + d.below(1e9))[1 : 2+d.below(9)]
		l := read(t, "subject a trust 0."+n+"; deny a on b : * below 0."+n+";")
		again := read(t, written(t, l))
		if !slices.EqualFunc(l, again, same) {
			t.Fatalf("0.%s is read %v, and again %v", n, l, again)
		}
	}
}

// small are all declarations of a small world, most of them with something that the table does not name.
func small() []api.Decl {
	heads := []string{"a", "b", "a, b"}
	lists := [][]api.Word{nil, words("a"), words("b"), words("a", "b"), words("b", "a"), words("a, b"), words("a b")}
	levels := []float64{0, 1, 0.5, math.NaN()}
	var out []api.Decl
	for kind := int8(1); kind <= 12; kind++ {
		for _, head := range heads {
			for _, on := range heads {
				for _, list := range lists {
					for cond := range int8(3) {
						for _, level := range levels {
							out = append(out,
								api.Decl{Kind: kind, Head: word(head), On: word(on), Names: list, Cond: cond, Level: level},
								api.Decl{Kind: kind, Head: word(head), On: word(on), Names: list, Cond: cond, Level: level, All: true, Line: 3})
						}
					}
				}
			}
		}
	}
	return out
}

func TestOneTextJustIfTheySayTheSame(t *testing.T) {
	first := map[string]api.Decl{}
	var different []string
	for _, d := range small() {
		text, e := canon.Decl(d)
		if e != api.OK {
			continue
		}
		before, ok := first[text]
		if !ok {
			first[text] = said(d)
			different = append(different, text)
		} else if !same(before, said(d)) {
			t.Fatalf("%v and %v are both written %q", before, d, text)
		}
	}
	for i, a := range different {
		for _, b := range different[:i] {
			if same(first[a], first[b]) {
				t.Fatalf("%v is written %q and %q", first[a], a, b)
			}
		}
	}
}
