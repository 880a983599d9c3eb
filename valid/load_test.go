package valid_test

import (
	"strings"
	"testing"

	"gatehouse/api"
	"gatehouse/parse"
	"gatehouse/valid"
)

const example = `# who is there
action open, read, write;
subject ann, bob trust 0.5;
subject "the night watch";
role clerk, guard;
object door1, door2, vault;
group doors, building;
member ann : clerk, guard;
inherit guard : clerk;
part door1 : doors;
within doors : building;
allow clerk on building : open, read above 0.25;
deny guard on vault : *;
except ann on door1 : read;
`

func examplePolicy() api.Policy {
	return api.Policy{
		Actions:  []string{"open", "read", "write"},
		Subjects: []api.Subject{{Name: "ann", Trust: 0.5}, {Name: "bob", Trust: 0.5}, {Name: "the night watch", Trust: 1}},
		Roles:    []string{"clerk", "guard"},
		Objects:  []string{"door1", "door2", "vault"},
		Groups:   []string{"doors", "building"},
		Members:  []api.Pair{{From: "ann", To: "clerk"}, {From: "ann", To: "guard"}},
		Inherits: []api.Pair{{From: "guard", To: "clerk"}},
		Parts:    []api.Pair{{From: "door1", To: "doors"}},
		Withins:  []api.Pair{{From: "doors", To: "building"}},
		Rules: []api.Rule{
			{Who: "clerk", What: "building", Actions: []string{"open", "read"}, Cond: api.Above, Level: 0.25},
			{Deny: true, Who: "guard", What: "vault"},
		},
		Excepts: []api.Triple{{Subject: "ann", Object: "door1", Action: "read"}},
	}
}

func TestTextsThatAreTaken(t *testing.T) {
	wantLoaded(t, example, examplePolicy())
	wantLoaded(t, "", api.Policy{})
	wantLoaded(t, " # nothing", api.Policy{})
	wantLoaded(t, "action open; subject ann, bob trust 0.5; object door; allow ann on door : *;", api.Policy{
		Actions:  []string{"open"},
		Subjects: []api.Subject{{Name: "ann", Trust: 0.5}, {Name: "bob", Trust: 0.5}},
		Objects:  []string{"door"},
		Rules:    []api.Rule{{Who: "ann", What: "door"}},
	})
	wantLoaded(t, "member ann : clerk; subject ann; role clerk;", api.Policy{
		Subjects: []api.Subject{{Name: "ann", Trust: 1}},
		Roles:    []string{"clerk"},
		Members:  []api.Pair{{From: "ann", To: "clerk"}},
	})
	wantLoaded(t, "subject ann; object ann; action ann;", api.Policy{
		Actions:  []string{"ann"},
		Subjects: []api.Subject{{Name: "ann", Trust: 1}},
		Objects:  []string{"ann"},
	})
	wantLoaded(t, "role r; inherit r : r;", api.Policy{Roles: []string{"r"}, Inherits: []api.Pair{{From: "r", To: "r"}}})
	wantLoaded(t, "group a, b; within a : b; within b : a; within a : a;", api.Policy{
		Groups:  []string{"a", "b"},
		Withins: []api.Pair{{From: "a", To: "b"}, {From: "b", To: "a"}, {From: "a", To: "a"}},
	})
	wantLoaded(t, "role r; group g; deny r on g : * above 0; deny r on g : * above 0;", api.Policy{
		Roles:  []string{"r"},
		Groups: []string{"g"},
		Rules:  []api.Rule{{Deny: true, Who: "r", What: "g", Cond: api.Above}, {Deny: true, Who: "r", What: "g", Cond: api.Above}},
	})
}

func TestTextsThatAreRefused(t *testing.T) {
	for text, want := range map[string]api.Fault{
		"subject ann; role ann;":                                  {Code: api.ErrTwice, Line: 1, Col: 19, Word: "ann"},
		"member ann : clerk; subject ann, ann;":                   {Code: api.ErrTwice, Line: 1, Col: 34, Word: "ann"},
		"member ann : clerk; subject ann;":                        {Code: api.ErrUnknown, Line: 1, Col: 14, Word: "clerk"},
		"object a; group g; part a : g, g;":                       {Code: api.ErrTwice, Line: 1, Col: 32, Word: "g"},
		"action o; subject a; object d; allow a on d : o, o;":     {Code: api.ErrTwice, Line: 1, Col: 50, Word: "o"},
		"action o; subject a; object d; except a on d : o, o;":    {Code: api.ErrTwice, Line: 1, Col: 51, Word: "o"},
		"subject ann; object door;\n\tallow \"x y\" on door : *;": {Code: api.ErrUnknown, Line: 2, Col: 8, Word: "x y"},
		"action " + strings.Join(numbered("a", 17), ", ") + ";":   {Code: api.ErrMany, Line: 1, Col: 79, Word: "a17"},
		// What the text's reading refuses counts, whatever is declared ahead of it.
		"subject ann":                                {Code: api.ErrSyntax, Line: 1, Col: 12},
		"subject ann, ann; subject":                  {Code: api.ErrSyntax, Line: 1, Col: 26},
		"member a : b; role @":                       {Code: api.ErrByte, Line: 1, Col: 20, Word: "@"},
		"role a, a;\n\"":                             {Code: api.ErrQuote, Line: 2, Col: 1, Word: "\""},
		"role a, a; \"\\x\"":                         {Code: api.ErrEscape, Line: 1, Col: 13, Word: "\\x"},
		"role a, a; subject b 0.":                    {Code: api.ErrNumber, Line: 1, Col: 22, Word: "0."},
		"role a, a; role \"\";":                      {Code: api.ErrName, Line: 1, Col: 17},
		strings.Repeat(" ", 65537):                   {Code: api.ErrLong},
		"role a, a;" + strings.Repeat("#", 65537-10): {Code: api.ErrLong},
	} {
		wantNotLoaded(t, text, want)
	}
}

func TestATextOfJustMaxText(t *testing.T) {
	for _, filler := range []string{" ", "\n", "#"} {
		text := example + strings.Repeat(filler, api.MaxText-len(example))
		wantLoaded(t, text, examplePolicy())
		wantNotLoaded(t, text+filler, api.Fault{Code: api.ErrLong})
	}
	filled := strings.Repeat(" ", api.MaxText-len(example)) + example
	wantLoaded(t, filled, examplePolicy())
	wantNotLoaded(t, " "+filled, api.Fault{Code: api.ErrLong})
	twice := strings.Repeat("\n", api.MaxText-len("role r,r;")) + "role r,r;"
	wantNotLoaded(t, twice, api.Fault{Code: api.ErrTwice, Line: 65528, Col: 8, Word: "r"})
}

// thrownText is a text by chance that is not far from one that may be.
func thrownText(d *dice) string {
	pieces := []string{"action open", "subject ann, bob", "subject eve trust 0.5", "role clerk", "object door", "group doors", "member ann : clerk", "inherit clerk : clerk",
		"part door : doors", "within doors : doors", "allow ann on door : open", "deny clerk on doors : * below 0.25", "except bob on door : open"}
	var b strings.Builder
	for _, s := range pieces {
		if d.below(12) > 0 {
			b.WriteString(s + ";")
		}
	}
	for range d.below(3) {
		b.WriteString(pieces[d.below(len(pieces))] + []string{";", ";", ";", "", " @;", ", ann;", " above 1;"}[d.below(7)])
	}
	return b.String()
}

// Load is the text's reading, and Build.
func TestLoadAgainstParseAndBuild(t *testing.T) {
	d := dice(3)
	count := map[api.Errno]int{}
	for range 20000 {
		text := thrownText(&d)
		decls, err := parse.Parse(text)
		want := api.Policy{}
		if err == nil {
			want, err = valid.Build(decls)
		}
		f := faultOf(t, err)
		count[f.Code]++
		if f.Code == api.OK {
			wantLoaded(t, text, want)
		} else {
			wantNotLoaded(t, text, f)
		}
	}
	for _, code := range []api.Errno{api.OK, api.ErrSyntax, api.ErrByte, api.ErrTwice, api.ErrUnknown} {
		if count[code] < 500 {
			t.Errorf("%v: %d texts alone", code, count[code])
		}
	}
}
