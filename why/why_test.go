package why_test

import (
	"slices"
	"strings"
	"testing"

	"gatehouse/api"
	"gatehouse/valid"
	"gatehouse/why"
)

// example is the policy of the document's text.
const example = `
action open, read, write;
subject ann, bob trust 0.5;
subject "the night watch";
role clerk, guard;
object door1, door2, vault;
group doors, building;
member ann : clerk, guard;
inherit guard : clerk;
part door1 : doors;
within doors : building;
allow clerk on building : open, read above 0.25;
deny guard on vault : *;
except ann on door1 : read;
`

func load(t *testing.T, text string) api.Policy {
	t.Helper()
	p, err := valid.Load(text)
	if err != nil {
		t.Fatal(err)
	}
	return p
}

// triple is one written as "ann/door1/open"; a name may be empty.
func triple(text string) api.Triple {
	names := strings.Split(text, "/")
	return api.Triple{Subject: names[0], Object: names[1], Action: names[2]}
}

func triples(text string) []api.Triple {
	var l []api.Triple
	for _, word := range strings.Fields(text) {
		l = append(l, triple(word))
	}
	return l
}

// pairs are pairs written as "a>b a>c".
func pairs(text string) []api.Pair {
	var l []api.Pair
	for _, word := range strings.Fields(text) {
		from, to, _ := strings.Cut(word, ">")
		l = append(l, api.Pair{From: from, To: to})
	}
	return l
}

// subjects have the trust 1.
func subjects(text string) []api.Subject {
	var l []api.Subject
	for _, name := range strings.Fields(text) {
		l = append(l, api.Subject{Name: name, Trust: 1})
	}
	return l
}

// rule allows, whatever the trust.
func rule(who, what, actions string) api.Rule {
	return api.Rule{Who: who, What: what, Actions: strings.Fields(actions)}
}

func denying(r api.Rule) api.Rule {
	r.Deny = true
	return r
}

// way is one written as "ann > guard > clerk"; none is the empty text.
func way(text string) []string {
	if text == "" {
		return nil
	}
	return strings.Split(text, " > ")
}

func reason(verdict int8, rule int, who, what string) api.Reason {
	return api.Reason{Verdict: verdict, Rule: rule, Who: way(who), What: way(what)}
}

func sameReason(a, b api.Reason) bool {
	return a.Verdict == b.Verdict && a.Rule == b.Rule && slices.Equal(a.Who, b.Who) && slices.Equal(a.What, b.What)
}

func wantReason(t *testing.T, what string, p api.Policy, x api.Triple, want api.Reason) {
	t.Helper()
	got := why.Explain(p, x)
	if !sameReason(got, want) {
		t.Errorf("%s: Explain of %v: %+v, want %+v", what, x, got, want)
	}
	if !why.Holds(p, x, got) {
		t.Errorf("%s: what Explain says of %v does not hold: %+v", what, x, got)
	}
}

func wantHolds(t *testing.T, what string, p api.Policy, x api.Triple, r api.Reason, want bool) {
	t.Helper()
	if got := why.Holds(p, x, r); got != want {
		t.Errorf("%s: Holds of %v and %+v: %v", what, x, r, got)
	}
	if got := why.Tell(p, x, r); (len(got) > 0) != want {
		t.Errorf("%s: Tell of %v and %+v: %q", what, x, r, got)
	}
}

func TestTheExamplesOfTheChapter(t *testing.T) {
	p := load(t, example)
	for text, want := range map[string]api.Reason{
		"ann/door1/open":  reason(api.WhyAllowed, 1, "ann > clerk", "door1 > doors > building"),
		"ann/door1/read":  reason(api.WhyExcepted, 1, "", ""),
		"ann/vault/open":  reason(api.WhyDenied, 2, "ann > guard", "vault"),
		"ann/door1/write": reason(api.WhyNothing, 0, "", ""),
		"bob/door1/open":  reason(api.WhyNothing, 0, "", ""),
		"eve/door1/jump":  reason(api.WhyUnknown, 0, "", ""),
	} {
		wantReason(t, "the document's policy", p, triple(text), want)
	}
	open, round := triple("ann/door1/open"), reason(api.WhyAllowed, 1, "ann > guard > clerk", "door1 > doors > building")
	wantHolds(t, "round by the guard", p, open, round, true)
	for what, change := range map[string]func(r *api.Reason){
		"rule 2":    func(r *api.Reason) { r.Rule = 2 },
		"ann>guard": func(r *api.Reason) { r.Who = way("ann > guard") },
		"no What":   func(r *api.Reason) { r.What = nil },
		"denied":    func(r *api.Reason) { r.Verdict = api.WhyDenied },
	} {
		r := round
		change(&r)
		wantHolds(t, what, p, open, r, false)
	}
	wantNames(t, "Who of door1, open", why.Who(p, "door1", "open"), "ann")
	wantNames(t, "Who of door1, read", why.Who(p, "door1", "read"), "")
	wantNames(t, "What of ann, open", why.What(p, "ann", "open"), "door1")
	wantLines(t, p, open, why.Explain(p, open), "yes: allowed by rule 1", "who: ann > clerk", "what: door1 > doors > building")
	wantLines(t, p, triple("eve/door1/jump"), reason(api.WhyUnknown, 0, "", ""), "no subject eve", "no action jump")
	wantLines(t, p, open, reason(api.WhyNothing, 0, "", ""))
}

func wantNames(t *testing.T, what string, got []string, want string) {
	t.Helper()
	if !slices.Equal(got, strings.Fields(want)) {
		t.Errorf("%s: %q, want %q", what, got, want)
	}
}

func wantLines(t *testing.T, p api.Policy, x api.Triple, r api.Reason, want ...string) {
	t.Helper()
	if got := why.Tell(p, x, r); !slices.Equal(got, want) {
		t.Errorf("Tell of %v and %+v: %q, want %q", x, r, got, want)
	}
}
