package epoch_test

import (
	"math"
	"testing"

	"gatehouse/api"
	"gatehouse/cells"
	"gatehouse/epoch"
)

// 18.7

// stay is a section as it went: at which moments it made its first step, began and was left (-1: not yet), and its mark.
type stay struct {
	section            *epoch.Section
	slot               int
	first, begun, left int
	mark               int
}

// period is a grace period as it went: its first step's moment, how many steps it made, how many of them in vain, and whether it is over.
type period struct {
	grace              *epoch.Grace
	first, steps, vain int
	over               bool
}

// crowd are readers, each with a slot, and writers that keep to the rules: nobody else writes the words, and a slot has one section at a time. What they tell is held against the moments alone, not against the words.
type crowd struct {
	memory  *cells.Memory
	slots   *epoch.Slots
	n       int
	now     int
	stays   [][]*stay   // of each slot, in order
	periods [][]*period // of each writer, in order
}

// gathered is a crowd whose epoch begins at a number.
func gathered(t *testing.T, readers, writers, start int) *crowd {
	t.Helper()
	m := fresh(t, readers+1)
	set(m, readers, start)
	return &crowd{memory: m, slots: over(t, m, readers, 0, readers), n: readers, stays: make([][]*stay, readers), periods: make([][]*period, writers)}
}

// pick is one step of a reader or, behind these, of a writer.
func (c *crowd) pick(t *testing.T, who int) {
	t.Helper()
	if who < c.n {
		c.read(t, who)
	} else {
		c.wait(t, who-c.n)
	}
	c.now++
	if n := len(c.memory.Trace()); n != c.now+1 || c.memory.Bad() != 0 { // the epoch was written at the beginning
		t.Errorf("%d entries behind %d steps, %d refused", n, c.now, c.memory.Bad())
	}
}

// current is the last section of a slot, if it was not left.
func (c *crowd) current(slot int) *stay {
	list := c.stays[slot]
	if len(list) == 0 || list[len(list)-1].left >= 0 {
		return nil
	}
	return list[len(list)-1]
}

// read is a reader's next step: a section's first one, its second one, or Leave.
func (c *crowd) read(t *testing.T, slot int) {
	t.Helper()
	switch x := c.current(slot); {
	case x == nil:
		x = &stay{section: enter(t, c.slots, slot), slot: slot, first: c.now, begun: -1, left: -1}
		c.stays[slot] = append(c.stays[slot], x)
		if x.section.Step() || x.section.Mark() != 0 {
			t.Errorf("the slot %d: begun with the first step", slot)
		}
	case x.begun < 0:
		if !x.section.Step() {
			t.Errorf("the slot %d: not begun with the second step", slot)
		}
		x.begun, x.mark = c.now, x.section.Mark()
		c.marksNeverFall(t, x)
	default:
		if e := c.slots.Leave(slot); e != api.OK {
			t.Errorf("Leave(%d) = %v", slot, e)
		}
		x.left = c.now
	}
}

// all goes over all sections so far.
func (c *crowd) all(look func(*stay)) {
	for _, list := range c.stays {
		for _, x := range list {
			look(x)
		}
	}
}

// (d)
func (c *crowd) marksNeverFall(t *testing.T, x *stay) {
	t.Helper()
	c.all(func(y *stay) {
		if y.begun >= 0 && y.begun < x.first && y.mark > x.mark {
			t.Errorf("a section has the mark %d, one that began ahead of its first step %d", x.mark, y.mark)
		}
	})
}

// wait is a writer's next step; when its period is over, the next one's first step.
func (c *crowd) wait(t *testing.T, writer int) {
	t.Helper()
	list := c.periods[writer]
	if len(list) == 0 || list[len(list)-1].over {
		list = append(list, &period{grace: c.slots.Wait(), first: c.now})
		c.periods[writer] = list
	}
	p := list[len(list)-1]
	ready, looks := p.grace.Ready(), p.grace.At()
	p.over = p.grace.Step()
	p.steps++
	vain := looks >= 0 && p.grace.At() == looks
	if vain {
		p.vain++
		c.heldUpFairly(t, p, looks)
	}
	if ready == vain {
		t.Errorf("Ready() = %v ahead of a look at the slot %d", ready, looks)
	}
	if most := 1 + c.n + p.vain; p.steps > most || p.over && p.steps != most { // (c)
		t.Errorf("%d steps of a period, %d in vain, over: %v", p.steps, p.vain, p.over)
	}
	if p.over {
		c.nobodyOutlives(t, p)
	}
}

// (a)
func (c *crowd) nobodyOutlives(t *testing.T, p *period) {
	t.Helper()
	c.all(func(x *stay) {
		if x.begun >= 0 && x.begun < p.first && x.left < 0 {
			t.Errorf("the period that began at the moment %d is over at %d; the section of the slot %d that began at %d goes on", p.first, c.now, x.slot, x.begun)
		}
	})
}

// (b)
func (c *crowd) heldUpFairly(t *testing.T, p *period, slot int) {
	t.Helper()
	if x := c.current(slot); x == nil || x.begun < 0 || x.first > p.first {
		t.Errorf("the period that began at the moment %d looks in vain at the slot %d at %d: %+v", p.first, slot, c.now, x)
	}
}

// tally is how much has come to pass, so that a test in which nothing does is seen.
type tally struct{ over, waited, crossed int }

func (c *crowd) count(sum *tally) {
	for _, list := range c.periods {
		for _, p := range list {
			if !p.over {
				continue
			}
			sum.over++
			if p.vain > 0 {
				sum.waited++
			}
			c.all(func(x *stay) {
				if x.first < p.first && x.begun > p.first {
					sum.crossed++ // its mark is older than the period, and it began behind the period's beginning
				}
			})
		}
	}
}

func (s tally) wantSome(t *testing.T) {
	t.Helper()
	if s.over < 50 || s.waited < 50 || s.crossed < 50 {
		t.Errorf("%+v: too few to tell", s)
	}
}

// each goes over all lists of n numbers below a bound.
func each(n, bound int, look func([]int)) {
	list := make([]int, n)
	for {
		look(list)
		place := n - 1
		for place >= 0 && list[place] == bound-1 {
			list[place] = 0
			place--
		}
		if place < 0 {
			return
		}
		list[place]++
	}
}

// All orders in which a few readers and writers make a few steps.
func TestAllShortOrders(t *testing.T) {
	var sum tally
	for _, c := range []struct{ readers, writers, picks, start int }{{1, 1, 13, 1}, {1, 2, 9, 1}, {2, 1, 9, 1}, {2, 1, 8, 77}, {2, 2, 8, 1}, {3, 1, 8, 1}, {1, 1, 10, math.MaxInt - 10}, {2, 2, 7, math.MaxInt - 10}} {
		each(c.picks, c.readers+c.writers, func(picks []int) {
			w := gathered(t, c.readers, c.writers, c.start)
			for _, who := range picks {
				w.pick(t, who)
			}
			w.count(&sum)
			if t.Failed() {
				t.Fatalf("%+v, picks %v", c, picks)
			}
		})
	}
	sum.wantSome(t)
}

// Long runs of many, some of whom are slow.
func TestLongOrders(t *testing.T) {
	d := dice(1807)
	var sum tally
	for row := range 250 {
		readers, writers, start := 1+d.throw(16), 1+d.throw(4), []int{1, 2, 1 << 40, math.MaxInt - 900}[row%4]
		w := gathered(t, readers, writers, start)
		slow := d.throw(readers)
		for range 800 {
			who := d.throw(readers + writers)
			switch {
			case who == slow && d.throw(10) > 0:
				who = readers + d.throw(writers)
			case row%5 == 0 && d.throw(2) > 0:
				who = readers
			}
			w.pick(t, who)
			if t.Failed() {
				t.Fatalf("row %d: %d readers, %d writers, behind %d steps", row, readers, writers, w.now)
			}
		}
		w.count(&sum)
	}
	sum.wantSome(t)
}

// A section that began ahead of the period holds it up however often it steps; behind Leave it goes on at once.
func TestASectionIsWaitedFor(t *testing.T) {
	for slot := range 16 {
		w := gathered(t, 16, 1, 1)
		w.pick(t, slot)
		w.pick(t, slot)
		for range 1 + slot + 30 {
			w.pick(t, 16)
		}
		p := w.periods[0][0]
		if p.over || p.grace.At() != slot || p.vain != 30 {
			t.Errorf("the slot %d: over %v, at %d, %d looks in vain", slot, p.over, p.grace.At(), p.vain)
		}
		w.pick(t, slot)
		for range 16 - slot {
			w.pick(t, 16)
		}
		if !p.over || p.vain != 30 || p.steps != 1+16+30 {
			t.Errorf("the slot %d: over %v behind %d steps", slot, p.over, p.steps)
		}
	}
}

// Sections that begin behind the period's first step, in each slot and again and again, hold nobody up.
func TestLaterSectionsHoldUpNobody(t *testing.T) {
	w := gathered(t, 4, 1, 1)
	w.pick(t, 4)
	for slot := range 4 {
		for range 2 + slot%2*3 { // begun, or left and begun again
			w.pick(t, slot)
		}
	}
	for range 4 {
		w.pick(t, 4)
	}
	if p := w.periods[0][0]; !p.over || p.vain != 0 {
		t.Errorf("over %v, %d looks in vain", p.over, p.vain)
	}
	for slot := range 4 {
		if x := w.current(slot); x == nil || x.mark != 2 {
			t.Errorf("the slot %d: %+v, want the mark 2", slot, x)
		}
	}
}

// A section with its first step ahead of the period's, and its second one behind it, is waited for where the look comes behind its mark, and not where it comes ahead.
func TestASectionAcrossTheBeginning(t *testing.T) {
	late := gathered(t, 1, 1, 1)
	for _, who := range []int{0, 1, 0, 1, 1} {
		late.pick(t, who)
	}
	if p := late.periods[0][0]; p.over || p.vain != 2 {
		t.Errorf("marked ahead of the look: over %v, %d in vain", p.over, p.vain)
	}
	early := gathered(t, 1, 1, 1)
	for _, who := range []int{0, 1, 1, 0} {
		early.pick(t, who)
	}
	if p, x := early.periods[0][0], early.current(0); !p.over || p.vain != 0 || x.mark != 1 {
		t.Errorf("marked behind the look: over %v, %d in vain, the mark %d", p.over, p.vain, x.mark)
	}
}
