package reader_test

import (
	"strconv"
	"testing"

	"gatehouse/api"
	"gatehouse/avc"
	"gatehouse/graph"
	"gatehouse/names"
	"gatehouse/page"
	"gatehouse/reader"
	"gatehouse/valid"
)

// 23.8

// example is the policy of the document's text.
const example = `
action open, read, write;
subject ann, bob trust 0.5;
subject "the night watch";
role clerk, guard;
object door1, door2, vault;
group doors, building;
member ann : clerk, guard;
inherit guard : clerk;
part door1 : doors;
within doors : building;
allow clerk on building : open, read above 0.25;
deny guard on vault : *;
except ann on door1 : read;
`

// ran steps a machine to its end, and says how many steps that took.
func ran(t *testing.T, x *reader.Machine) int {
	t.Helper()
	for steps := 1; steps < 20000; steps++ {
		if x.Step(steps) {
			return steps
		}
	}
	t.Fatal("a machine that does not end")
	return 0
}

// book is a memory with pages of graphs, one behind the other, each of its own version; one index for all.
type book struct {
	site   *reader.Site
	index  *names.Index[string]
	graphs []api.Graph
	pages  [][]int
	places []int
	laid   int // how far the memory is laid
}

func bookOf(t *testing.T, size int) *book {
	t.Helper()
	return &book{site: siteOf(t, size), index: names.NewIndex[string](), laid: pageAt}
}

// lay puts a graph's page behind the others; its version is the number of pages and 3.
func (b *book) lay(t *testing.T, g api.Graph) {
	t.Helper()
	words, e := page.Lay(len(b.pages)+3, g, b.index)
	if e != api.OK {
		t.Fatalf("Lay of %+v: %v", g, e)
	}
	set(b.site.Memory, b.laid, words...)
	b.graphs, b.pages, b.places = append(b.graphs, g), append(b.pages, words), append(b.places, b.laid)
	b.laid += len(words)
}

// open makes a page the current one.
func (b *book) open(n int) { set(b.site.Memory, 0, b.places[n]) }

// tally is what has come of checks, so that a test in which nothing does is seen.
type tally struct{ allowed, denied, hits int }

// wantDecided asks for a check of the current page n, by the names of three symbols.
func (b *book) wantDecided(t *testing.T, n int, c *avc.Cache, triple [3]int, sum *tally) {
	t.Helper()
	var spelt [3]string
	for i, symbol := range triple {
		spelt[i], _ = b.index.At(symbol) // no name: none that a graph has
	}
	want := graph.Decide(b.graphs[n], api.Triple{Subject: spelt[0], Object: spelt[1], Action: spelt[2]})
	x := checkOf(t, b.site, n%2, c, triple[0], triple[1], triple[2])
	steps, told := ran(t, x), x.Answer()
	if told != (reader.Answer{Allowed: want, Hit: told.Hit, Version: n + 3, Page: b.places[n]}) {
		t.Fatalf("%v of %v: %+v, want %v", spelt, b.pages[n], told, want)
	}
	yes, read := page.Decide(b.pages[n], triple[0], triple[1], triple[2])
	if told.Hit {
		read = 0
	}
	if most := 11 + 3*b.pages[n][1]; steps > most || steps != 5+read || yes != want {
		t.Fatalf("%v of %v: %d steps, %d words of the page", spelt, b.pages[n], steps, read)
	}
	switch {
	case told.Hit:
		sum.hits++
	case want:
		sum.allowed++
	default:
		sum.denied++
	}
}

// all asks for all triples of an index's symbols, and of some that have no name.
func (b *book) all(t *testing.T, n int, c *avc.Cache, sum *tally) {
	t.Helper()
	b.open(n)
	for s := range b.index.Len() + 2 {
		for o := range b.index.Len() + 2 {
			for a := range b.index.Len() + 2 {
				b.wantDecided(t, n, c, [3]int{s, o, a}, sum)
			}
		}
	}
}

// The document's example: of its triples one is allowed.
func TestTheDocumentsPolicy(t *testing.T) {
	p, err := valid.Load(example)
	if err != nil {
		t.Fatal(err)
	}
	for _, c := range []*avc.Cache{nil, cacheOf(t, 16, 4)} {
		b := bookOf(t, 100)
		b.lay(t, graph.Compile(p))
		var sum tally
		b.all(t, 0, c, &sum)
		if sum.allowed != 1 || sum.hits != 0 {
			t.Errorf("%+v", sum)
		}
	}
}

var pool = []string{"ann", "bob", "cat", "door", "safe", "open", "read", "n1", "n2", "n3"}

// graph is that of a policy by the dice: a name may name several things.
func (d *dice) graph() api.Graph {
	var p api.Policy
	for _, name := range pool {
		if d.throw(3) == 0 {
			p.Actions = append(p.Actions, name)
		}
		if d.throw(2) == 0 {
			p.Subjects = append(p.Subjects, api.Subject{Name: name, Trust: 1})
		}
		if d.throw(2) == 0 {
			p.Objects = append(p.Objects, name)
		}
	}
	for range d.throw(40) {
		if len(p.Subjects) == 0 || len(p.Objects) == 0 || len(p.Actions) == 0 {
			break
		}
		r := api.Rule{Deny: d.throw(8) == 0, Who: of(d, p.Subjects).Name, What: of(d, p.Objects)}
		if r.Deny || d.throw(3) == 0 {
			r.Actions = []string{of(d, p.Actions)}
		}
		p.Rules = append(p.Rules, r)
	}
	return graph.Compile(p)
}

func TestPagesDecideAsTheirGraphs(t *testing.T) {
	d := dice(2308)
	var sum tally
	for range 40 {
		b := bookOf(t, 1200)
		for range 3 {
			b.lay(t, d.graph())
		}
		for n := range b.graphs {
			b.all(t, n, nil, &sum)
		}
	}
	b := bookOf(t, 100)
	b.lay(t, api.Graph{})
	b.all(t, 0, nil, &sum)
	if sum.allowed < 2000 || sum.denied < 10000 {
		t.Errorf("%+v: too few to tell", sum)
	}
}

// Caches of all shapes that are used for such pages alone, now of one, now of another: they never say anything else.
func TestCachesSayWhatThePagesSay(t *testing.T) {
	d := dice(2309)
	var sum tally
	for row := range 60 {
		b := bookOf(t, 2000)
		for range 2 + d.throw(4) {
			b.lay(t, d.graph())
		}
		var caches []*avc.Cache
		for range 2 {
			caches = append(caches, cacheOf(t, 1+d.throw(5), 1+d.throw(8)))
		}
		few := 1 + row%6
		for call, n := 0, 0; call < 600; call++ {
			if call == 0 || d.throw(20) == 0 {
				n = d.throw(len(b.pages))
				b.open(n)
			}
			var triple [3]int
			for i := range triple {
				triple[i] = 1 + d.throw(min(few, b.index.Len())+1)
			}
			b.wantDecided(t, n, of(&d, caches), triple, &sum)
		}
	}
	if sum.allowed < 500 || sum.denied < 2000 || sum.hits < 2000 {
		t.Errorf("%+v: too few to tell", sum)
	}
}

// The greatest graph: sixteen actions, and as many subjects and objects as may be, each in a class of its own.
func TestTheGreatestGraph(t *testing.T) {
	var p api.Policy
	for i := range 64 {
		p.Subjects = append(p.Subjects, api.Subject{Name: "s" + strconv.Itoa(i), Trust: 1})
		p.Objects = append(p.Objects, "o"+strconv.Itoa(i))
		if i < 16 {
			p.Actions = append(p.Actions, "a"+strconv.Itoa(i))
		}
	}
	for i := range 64 {
		p.Rules = append(p.Rules, api.Rule{Who: "s" + strconv.Itoa(i), What: "o" + strconv.Itoa(i), Actions: []string{"a" + strconv.Itoa(i%16)}})
	}
	b := bookOf(t, 6000)
	for _, name := range []string{"z", "y", "x"} {
		b.index.Of(name)
	}
	b.lay(t, graph.Compile(p))
	if b.pages[0][1] != 512 || len(b.pages[0]) != 4+1024+64*64 {
		t.Fatalf("%v", b.pages[0][:4])
	}
	b.open(0)
	var sum tally
	for i := range 64 {
		for j := range 64 {
			for k := range 16 {
				if i != j && (i+j+k)%40 > 0 {
					continue
				}
				s, _ := b.index.Find("s" + strconv.Itoa(i))
				o, _ := b.index.Find("o" + strconv.Itoa(j))
				a, _ := b.index.Find("a" + strconv.Itoa(k))
				b.wantDecided(t, 0, nil, [3]int{s, o, a}, &sum)
			}
		}
	}
	if sum.allowed != 64 || sum.denied < 1000 {
		t.Errorf("%+v", sum)
	}
}

// words are a page: that of a graph, or a crowded one, with some words changed, or cut off.
func (d *dice) words() []int {
	words := laid()
	if d.throw(2) == 0 {
		words, _ = page.Lay(1+d.throw(9), d.graph(), names.NewIndex[string]())
	}
	if d.throw(2) == 0 {
		for place := range words[1] {
			if words[4+2*place] == 0 && d.throw(8) > 0 {
				put(words, place, keyOf(50+place, 1), 1)
			}
		}
	}
	for range max(0, d.throw(5)-2) {
		words[d.throw(len(words))] = of(d, []int{0, 1, 2, 3, 4, 8, 16, 17, 9, 14, 7, -1, 5, 32, 64, 13, 10})
	}
	if d.throw(3) == 0 {
		words = words[:1+d.throw(len(words))]
	}
	return words
}

// On whatever words a check goes as layer 12 says that a reader goes: a list of words up to the memory's end, with nothing poisoned.
func TestChecksGoAsDecideDoes(t *testing.T) {
	d := dice(2312)
	allowed, long := 0, 0
	for range 20000 {
		words := d.words()
		s := siteOf(t, pageAt+len(words), words...)
		subject, object, action := d.throw(6), d.throw(6), d.throw(6)
		if d.throw(2) == 0 {
			subject, object, action = 2, 3, 1
		}
		x := checkOf(t, s, 0, nil, subject, object, action)
		steps := ran(t, x)
		yes, read := page.Decide(words, subject, object, action)
		refused := s.Memory.Bad() // a word that is not there is loaded in vain
		if a := x.Answer(); a.Allowed != yes || steps != 5+read+refused || (refused > 0 && !a.Broken) {
			t.Fatalf("%v, %d %d %d: %+v, %d steps, want %v, %d words, %d refused", words, subject, object, action, a, steps, yes, read, refused)
		}
		if yes {
			allowed++
		}
		if read > 9 {
			long++
		}
	}
	if allowed < 500 || long < 500 {
		t.Errorf("%d allowed, %d long ones: too few to tell", allowed, long)
	}
}
