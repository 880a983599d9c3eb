package mean_test

import (
	"slices"
	"strings"
	"testing"

	"gatehouse/api"
	"gatehouse/mean"
)

// house has roles that inherit and groups within groups, each three deep.
func house() api.Policy {
	return api.Policy{
		Actions:  []string{"open", "read", "write"},
		Subjects: []api.Subject{{Name: "ann", Trust: 0.5}, {Name: "bob", Trust: 0.25}, {Name: "cat", Trust: 1}},
		Roles:    []string{"guard", "clerk", "staff", "guest"},
		Objects:  []string{"door", "safe", "lamp"},
		Groups:   []string{"hall", "floor", "building", "yard"},
		Members:  pairs("ann>guard bob>staff cat>guest cat>clerk"),
		Inherits: pairs("clerk>staff guard>clerk"),
		Parts:    pairs("safe>floor door>hall lamp>yard lamp>floor"),
		Withins:  pairs("hall>floor floor>building"),
	}
}

func TestWhoASubjectIsAndWhatAnObjectIs(t *testing.T) {
	p := house()
	whos := map[string]string{"ann": "ann guard clerk staff", "bob": "bob staff", "cat": "cat guest clerk staff"}
	whats := map[string]string{"door": "door hall floor building", "safe": "safe floor building", "lamp": "lamp yard floor building"}
	for subject, own := range whos {
		for _, who := range everyName(p) {
			want := hasWord(own, who)
			if got := mean.Matches(p, rule(who, "door", ""), api.Triple{Subject: subject, Object: "door", Action: "read"}); got != want {
				t.Errorf("%s is %q: %v", subject, who, got)
			}
		}
	}
	for object, own := range whats {
		for _, what := range everyName(p) {
			want := hasWord(own, what)
			if got := mean.Matches(p, rule("bob", what, ""), api.Triple{Subject: "bob", Object: object, Action: "read"}); got != want {
				t.Errorf("%s is %q: %v", object, what, got)
			}
		}
	}
}

func hasWord(words, word string) bool { return slices.Contains(strings.Fields(words), word) }

func TestMatchesAsksForAllOfIt(t *testing.T) {
	p := house()
	for _, c := range []struct {
		what string
		r    api.Rule
		t    string
		want bool
	}{
		{"a subject and an object", rule("ann", "door", "read"), "ann/door/read", true},
		{"a role and a group", rule("staff", "building", "read"), "ann/door/read", true},
		{"a role and an object", rule("clerk", "safe", "read"), "cat/safe/read", true},
		{"a subject and a group", rule("bob", "floor", "read"), "bob/lamp/read", true},
		{"another subject", rule("bob", "building", "read"), "ann/door/read", false},
		{"a role that others play", rule("guest", "building", "read"), "ann/door/read", false},
		{"a role that inherits the subject's", rule("clerk", "building", "read"), "bob/door/read", false},
		{"another object", rule("staff", "safe", "read"), "ann/door/read", false},
		{"a group that others lie in", rule("staff", "yard", "read"), "ann/door/read", false},
		{"a group within the object's", rule("staff", "hall", "read"), "ann/safe/read", false},
		{"no actions are all", rule("staff", "building", ""), "ann/door/write", true},
		{"no actions are those that are there", rule("staff", "building", ""), "ann/door/close", false},
		{"one of several actions", rule("staff", "building", "write open"), "ann/door/open", true},
		{"the last of several actions", rule("staff", "building", "write open read"), "ann/door/read", true},
		{"none of several actions", rule("staff", "building", "write open"), "ann/door/read", false},
		{"an action twice", rule("staff", "building", "read read"), "ann/door/read", true},
		{"an action that only the rule has", rule("staff", "building", "close read"), "ann/door/close", false},
		{"beside an action that only the rule has", rule("staff", "building", "close read"), "ann/door/read", true},
		{"a subject that is not there", rule("dan", "building", ""), "dan/door/read", false},
		{"an object that is not there", rule("ann", "gate", ""), "ann/gate/read", false},
		{"a role for a subject", rule("guard", "door", ""), "guard/door/read", false},
		{"a group for an object", rule("ann", "hall", ""), "ann/hall/read", false},
		{"an object for a subject", rule("door", "door", ""), "door/door/read", false},
		{"a subject for an object", rule("ann", "ann", ""), "ann/ann/read", false},
		{"a subject for an action", rule("ann", "door", ""), "ann/door/ann", false},
		{"subject and object the other way round", rule("ann", "door", ""), "door/ann/read", false},
		{"a rule of nobody", rule("", "building", ""), "ann/door/read", false},
		{"a rule on nothing", rule("staff", "", ""), "ann/door/read", false},
		{"who and what the other way round", rule("building", "staff", ""), "ann/door/read", false},
		{"empty names", rule("", "", ""), "//", false},
		{"the empty rule", api.Rule{}, "ann/door/read", false},
		{"a longer name", rule("staffs", "building", ""), "ann/door/read", false},
		{"another letter", rule("Staff", "building", ""), "ann/door/read", false},
	} {
		if got := mean.Matches(p, c.r, triple(c.t)); got != c.want {
			t.Errorf("%s: %v, want %v", c.what, got, c.want)
		}
		if got := mean.Matches(p, denying(c.r), triple(c.t)); got != c.want {
			t.Errorf("%s, denying: %v, want %v", c.what, got, c.want)
		}
	}
}

func TestMatchesByTrust(t *testing.T) {
	p := house()
	for _, c := range []struct {
		cond  int8
		level float64
		want  [3]bool
	}{
		{api.Above, 0.5, [3]bool{true, false, true}}, {api.Below, 0.5, [3]bool{false, true, false}},
		{api.Above, 0.25, [3]bool{true, true, true}}, {api.Below, 0.25, [3]bool{false, false, false}},
		{api.Above, 1, [3]bool{false, false, true}}, {api.Below, 1, [3]bool{true, true, false}},
		{api.Always, 1, [3]bool{true, true, true}}, {api.Always, 0, [3]bool{true, true, true}},
		{3, 0, [3]bool{}}, {-128, 0, [3]bool{}},
	} {
		for i, s := range p.Subjects {
			r := api.Rule{Who: "staff", What: "building", Cond: c.cond, Level: c.level}
			if got := mean.Matches(p, r, api.Triple{Subject: s.Name, Object: "safe", Action: "open"}); got != c.want[i] {
				t.Errorf("%s, condition %d, level %v: %v", s.Name, c.cond, c.level, got)
			}
		}
	}
}

// The policy's rules and its excepts say nothing of what another rule matches.
func TestMatchesAsksForNoOtherRule(t *testing.T) {
	p := house()
	r, x := rule("staff", "building", "read"), triple("ann/door/read")
	p.Rules = []api.Rule{denying(rule("ann", "door", ""))}
	p.Excepts = []api.Triple{x}
	if !mean.Matches(p, r, x) || mean.Matches(p, r, triple("ann/door/open")) {
		t.Error("a rule that is none of the policy's")
	}
}

// Members and Inherits are gone along together, whatever stands ahead in which of them; so are Parts and Withins; and neither two with the other two.
func TestPairsOfBothKindsTogether(t *testing.T) {
	p := api.Policy{Actions: []string{"open"}, Subjects: subjects("ann bob"), Objects: []string{"door", "safe"}}
	p.Members = pairs("x>y role>subrole")
	p.Inherits = pairs("ann>role subrole>bob bob>x")
	p.Parts = pairs("h>i group>h")
	p.Withins = pairs("door>group i>safe safe>j")
	for _, who := range strings.Fields("ann role subrole bob x y") {
		if !mean.Matches(p, rule(who, "door", ""), triple("ann/door/open")) {
			t.Errorf("ann is %s", who)
		}
	}
	for _, what := range strings.Fields("door group h i safe j") {
		if !mean.Matches(p, rule("ann", what, ""), triple("ann/door/open")) {
			t.Errorf("door is %s", what)
		}
	}
	p = api.Policy{Actions: []string{"open"}, Subjects: subjects("ann"), Objects: []string{"door"}}
	p.Members, p.Inherits = pairs("door>m"), pairs("door>n ann>o")
	p.Parts, p.Withins = pairs("ann>p"), pairs("ann>q door>r")
	for who, want := range map[string]bool{"m": false, "n": false, "o": true, "p": false, "q": false, "r": false} {
		if got := mean.Matches(p, rule(who, "door", ""), triple("ann/door/open")); got != want {
			t.Errorf("ann is %s: %v", who, got)
		}
	}
	for what, want := range map[string]bool{"m": false, "n": false, "o": false, "p": false, "q": false, "r": true} {
		if got := mean.Matches(p, rule("ann", what, ""), triple("ann/door/open")); got != want {
			t.Errorf("door is %s: %v", what, got)
		}
	}
}

func TestRingsDoNoHarm(t *testing.T) {
	p := api.Policy{Actions: []string{"open"}, Subjects: subjects("ann bob"), Objects: []string{"door", "safe"}}
	p.Members = pairs("ann>a bob>e bob>bob")
	p.Inherits = pairs("a>b b>c c>a c>d d>d e>f f>e")
	p.Parts = pairs("door>g safe>k")
	p.Withins = pairs("g>h h>g h>i i>i k>k")
	for who, want := range map[string]string{"a": "ann", "b": "ann", "c": "ann", "d": "ann", "e": "bob", "f": "bob"} {
		p.Rules = []api.Rule{rule(who, "g", "")}
		wantRelation(t, "a ring of roles: "+who, p, want+"/door/open")
	}
	for what, want := range map[string]string{"g": "door", "h": "door", "i": "door", "k": "safe"} {
		p.Rules = []api.Rule{rule("f", what, "")}
		wantRelation(t, "a ring of groups: "+what, p, "bob/"+want+"/open")
		wantAllowed(t, "a ring of groups: "+what, p, "bob/"+want+"/open")
	}
}

// Names are bytes, also those that no right policy has.
func TestNamesOfAnyBytes(t *testing.T) {
	p := api.Policy{Actions: []string{"", "\xff"}, Subjects: []api.Subject{{Name: ""}, {Name: "\xfe\x00"}}, Objects: []string{"", "a/b"}}
	p.Members = []api.Pair{{From: "\xfe\x00", To: ""}}
	for _, c := range []struct {
		r    api.Rule
		t    api.Triple
		want bool
	}{
		{api.Rule{}, api.Triple{}, true},
		{api.Rule{}, api.Triple{Subject: "\xfe\x00", Action: "\xff"}, true},
		{api.Rule{}, api.Triple{Subject: "\xfe", Action: "\xff"}, false},
		{api.Rule{What: "a/b", Actions: []string{""}}, api.Triple{Object: "a/b"}, true},
		{api.Rule{What: "a/b", Actions: []string{""}}, api.Triple{Object: "a/b", Action: "\xff"}, false},
		{api.Rule{Who: "\xfe\x00"}, api.Triple{}, false},
	} {
		if got := mean.Matches(p, c.r, c.t); got != c.want {
			t.Errorf("%v, %q: %v", c.r, c.t, got)
		}
	}
}
