package store_test

import (
	"slices"
	"strings"
	"testing"

	"gatehouse/api"
)

// 25.4

// A write that publishes has ended with that step; the others are made all the same.
func TestDoneTooEarly(t *testing.T) {
	c := config()
	c.Flaw = api.FlawEarlyDone
	s := made(t, c, one(revoke(door), register(), version()))
	published := api.Event{Kind: api.OpRevoke, Ended: 28, Point: 28, Steps: 29, Version: 6}
	for now := range 39 {
		wantDone(t, s, 0, false)
		wantReady(t, s, 0, true)
		if !s.Pick(0) {
			t.Errorf("moment %d: no step", now)
		}
		r := s.Run()
		want := []api.Event{{Kind: api.OpRevoke, Ended: -1, Point: -1, Steps: now + 1}}
		if now >= 28 {
			want[0] = published
		}
		if now >= 33 {
			want = append(want, api.Event{Number: 1, Kind: api.OpRegister, Began: 33, Ended: 33, Point: -1, Steps: 1})
		}
		if now >= 34 {
			want = append(want, api.Event{Number: 2, Kind: api.OpVersion, Began: 34, Ended: -1, Point: -1, Steps: now - 33})
		}
		if now >= 36 {
			want[2].Point = 36
		}
		if now == 38 {
			want[2].Ended, want[2].Version = 38, 6
		}
		wantEvents(t, r, want...)
		live, gone := 1, -1
		if now >= 4 && now < 31 {
			live = 2
		}
		if now >= 31 {
			gone = 31
		}
		if r.Live[now] != live || r.Versions[0].Gone != gone {
			t.Errorf("moment %d: Live %d, %+v", now, r.Live[now], r.Versions[0])
		}
	}
	wantDone(t, s, 0, true)
	wantTrace(t, s.Run(), 28, "store 0 27, add 1 1, load 4 0, free 6, add 3 1, swap 5 1, load 1 2, store 4 2, load 0 27, load 27 6, store 4 0")
}

// Its last operation has ended, and the task is not done: the rest waits as it would have.
func TestTheRestOfAWriteThatHasEnded(t *testing.T) {
	c := config()
	c.Flaw = api.FlawEarlyDone
	s := made(t, c, [][]api.Op{{register(), check(door)}, {revoke(door)}, {revoke(door)}})
	for _, task := range picks(t, "0:4 1:29") {
		s.Pick(task)
	}
	ended := api.Event{Task: 1, Kind: api.OpRevoke, Began: 4, Ended: 32, Point: 32, Steps: 29, Version: 6}
	now := 33
	pick := func(task int) {
		s.Pick(task)
		now++
		if e := s.Run().Events[2]; e != ended {
			t.Errorf("behind %d moments: %+v, want %+v", now, e, ended)
		}
		wantDone(t, s, 1, false)
	}
	wantReady(t, s, 1, true) // the epoch
	pick(1)
	wantReady(t, s, 1, false) // the section
	pick(1)
	wantReady(t, s, 1, false)
	wantReady(t, s, 2, true)
	pick(2)
	wantReady(t, s, 2, false) // the lock
	for range 11 {
		wantReady(t, s, 1, false)
		pick(0)
	}
	wantReady(t, s, 1, true)
	pick(1)
	pick(1)
	wantReady(t, s, 2, false)
	s.Pick(1)
	wantDone(t, s, 1, true)
	wantReady(t, s, 2, true)
	r := s.Run()
	if r.Events[2] != ended || r.Versions[0].Gone != now-1 {
		t.Errorf("%+v, %+v", r.Events[2], r.Versions)
	}
	wantTrace(t, r, 33, "add 1 1, load 4 1, add 2 1")
	wantTrace(t, r, now-2, "load 4 0, free 6, add 3 1")
}

// Two of them: a write begins behind the rest of the one ahead.
func TestTwoThatAreDoneTooEarly(t *testing.T) {
	c := roomy(2)
	c.Flaw = api.FlawEarlyDone
	r := finished(t, c, revoke(door), update("?"), update(""))
	wantEvents(t, r,
		api.Event{Kind: api.OpRevoke, Ended: 28, Point: 28, Steps: 29, Version: 6},
		api.Event{Number: 1, Kind: api.OpUpdate, Began: 34, Ended: 38, Point: 36, Steps: 5, Code: api.ErrByte},
		api.Event{Number: 2, Kind: api.OpUpdate, Began: 39, Ended: 39 + 15, Point: 39 + 15, Steps: 16, Version: 7})
	if len(r.Trace) != 34+5+store21(8, 2) || r.Live[len(r.Live)-1] != 1 {
		t.Errorf("%d moments, Live %v", len(r.Trace), r.Live)
	}
}

// store21 is how many steps a write of a page of so many words has, waiting aside (24.8).
func store21(size, slots int) int { return 11 + size + slots }

// Each flaw in a write that goes through: its steps, by the chapters 23 and 24.
func TestEachFlawInAWrite(t *testing.T) {
	page := stores(27, revoked())
	const before, between, after = "add 2 1, load 3 0, load 0 6, load 6 5, take 27 21, append 6, sync, ", ", store 0 27, add 1 1, load 4 0, free 6", ", add 3 1"
	for flaw, x := range []struct {
		trace              string
		point, ended, gone int
	}{
		{before + page + between + after, 28, 32, 31},
		{before + page + ", store 0 27, free 6" + after, 28, 30, 29},
		{before + page + between + after, 28, 32, 31},
		{before + "store 0 27, " + page + ", add 1 1, load 4 0, free 6" + after, 7, 32, 31},
		{before + page + between + after, 28, 32, 31},
		{"load 0 6, load 6 5, take 27 21, append 6, sync, " + page + between, 26, 29, 29},
		{before + page + between + after, 28, 28, 31},
	} {
		c := config()
		c.Flaw = flaw
		r := finished(t, c, revoke(door))
		if got := strings.Join(sayAll(r.Trace), ", "); got != x.trace {
			t.Errorf("flaw %d: %s, want %s", flaw, got, x.trace)
		}
		wantEvents(t, r, api.Event{Kind: api.OpRevoke, Ended: x.ended, Point: x.point, Steps: x.ended + 1, Version: 6})
		wantVersions(t, r, []api.Version{{Number: 5, Addr: 6, Size: 21, Point: -1, Gone: x.gone}, {Number: 6, Addr: 27, Size: 21, Point: x.point, Gone: -1}}, small, small+"except ann on door: open;")
	}
}

// With FlawEarly the point is told from the swap on, while the words are laid.
func TestThePointAheadOfTheWords(t *testing.T) {
	c := config()
	c.Flaw = api.FlawEarly
	s := made(t, c, one(revoke(door)))
	for i := range 33 {
		s.Pick(0)
		want := api.Event{Kind: api.OpRevoke, Ended: -1, Point: -1, Steps: i + 1}
		if i >= 7 {
			want.Point = 7
		}
		if i == 32 {
			want.Ended, want.Version = 32, 6
		}
		r := s.Run()
		wantEvents(t, r, want)
		if n := len(r.Versions); n != 1 && i < 7 || n != 2 && i >= 7 {
			t.Errorf("behind %d steps: %d versions", i+1, n)
		}
	}
}

// Each flaw in a check: FlawTag and FlawLate make a difference, the others do not.
func TestEachFlawInACheck(t *testing.T) {
	for flaw := range 7 {
		c := config()
		c.Flaw = flaw
		r := finished(t, c, register(), check(door), version())
		want, point := checked+", load 1 1, store 4 1, load 0 6, load 6 5, store 4 0", []int{3, 17}
		if flaw == api.FlawLate {
			want, point = strings.ReplaceAll(want, "load 1 1, store 4 1, load 0 6", "load 0 6, load 1 1, store 4 1"), []int{1, 15}
		}
		if got := strings.Join(sayAll(r.Trace), ", "); got != want {
			t.Errorf("flaw %d: %s, want %s", flaw, got, want)
		}
		wantEvents(t, r,
			api.Event{Kind: api.OpRegister, Point: -1, Steps: 1},
			api.Event{Number: 1, Kind: api.OpCheck, Began: 1, Ended: 14, Point: point[0], Steps: 14, Allowed: true, Version: 5},
			api.Event{Number: 2, Kind: api.OpVersion, Began: 15, Ended: 19, Point: point[1], Steps: 5, Version: 5})
	}
}

// With FlawTag the third page lies where the first one lay: the cache says what was so then.
func TestTheTagOfAPage(t *testing.T) {
	for _, flaw := range []int{api.FlawNone, api.FlawTag} {
		c := roomy(1)
		c.Sets, c.Ways, c.Flaw = 1, 1, flaw
		r := finished(t, c, register(), check(door), revoke(door), revoke(door), check(door))
		e := r.Events[4]
		if flawed := flaw == api.FlawTag; e.Allowed != flawed || e.Hit != flawed || e.Version != 7 {
			t.Errorf("flaw %d: %+v", flaw, e)
		}
	}
}

// With FlawLate a page may be given back under a check's eyes: it is broken, and has not read the version.
func TestABrokenCheck(t *testing.T) {
	c := config()
	c.Flaw = api.FlawLate
	for _, op := range []api.Op{check(door), version()} {
		r := played(t, c, [][]api.Op{{register(), op}, {revoke(door)}}, "0:2 1:33 0:4")
		if e := r.Events[1]; e != (api.Event{Number: 1, Kind: op.Kind, Began: 1, Ended: 38, Point: 1, Steps: 5, Broken: true}) {
			t.Errorf("%+v", e)
		}
		wantTrace(t, r, 35, "load 1 2, store 4 2, load 6 -4611686018427387904!, store 4 0")
	}
}

// With FlawNoLock two writes find one page, and both give it back: the second time that is refused, and the version is the one that went first; or its piece is another's by then.
func TestAPageGivenBackTwice(t *testing.T) {
	c := roomy(1)
	c.Flaw = api.FlawNoLock
	list := [][]api.Op{{apply(newSubject("eve"))}, {revoke(door)}, {update("")}}
	r := played(t, c, list, "0:2 1:3 0:100 1:100")
	v := r.Versions
	if len(v) != 3 || v[0].Gone < 0 || v[1].Number != 6 || v[2].Number != 6 || v[0].Gone >= v[2].Point || v[1].Gone != -1 || v[2].Gone != -1 {
		t.Fatalf("the versions are %+v", v)
	}
	wantFrees(t, r, "free 6, free 6!")
	if n := r.Live[len(r.Live)-1]; n != 2 {
		t.Errorf("%d pieces are out", n)
	}

	// The third one takes the piece ahead of the second give: that one gives a page back that nobody has published.
	r = played(t, c, list, "0:2 1:3 0:100 2:3 1:100")
	v = r.Versions
	wantFrees(t, r, "free 6, free 6")
	if len(v) != 3 || v[0].Gone < 0 || v[1].Gone != -1 || v[2].Gone != -1 || v[0].Gone >= v[2].Point {
		t.Errorf("the versions are %+v", v)
	}
	r = played(t, c, list, "0:2 1:3 0:100 2:3 1:100 2:100")
	v = r.Versions // and then it is published, all the same
	if len(v) != 4 || v[3].Addr != 6 || v[3].Gone != -1 || v[0].Gone < 0 || v[0].Gone >= v[2].Point {
		t.Errorf("the versions are %+v", v)
	}

	// It has published ahead of the second give: that gives its page back, which is the last one that lay there.
	r = played(t, c, list, "0:2 1:3 0:100 2:14 1:100")
	v = r.Versions
	if len(v) != 4 || v[0].Addr != 6 || v[2].Addr != 6 || v[0].Gone < 0 || v[0].Gone >= v[2].Point || v[2].Gone <= v[2].Point || v[1].Gone != -1 || v[3].Gone != -1 {
		t.Errorf("the versions are %+v", v)
	}
	wantFrees(t, r, "free 6, free 6")

	// The second one takes the piece that the first one has given back: in the end it gives its own page back.
	r = played(t, c, list, "0:2 1:2 0:100 1:100")
	v = r.Versions
	if len(v) != 3 || v[2].Addr != 6 || v[2].Gone <= v[2].Point || v[0].Gone >= v[2].Point || v[1].Gone != -1 {
		t.Errorf("the versions are %+v", v)
	}
	wantFrees(t, r, "free 6, free 6")
}

// A page goes without a step J: a write that is refused gives back a piece that is another's by then. The J that comes for it is refused, and the version has not gone.
func TestAPageThatAnotherHasGivenBack(t *testing.T) {
	c := roomy(1)
	c.Flaw, c.Disk = api.FlawNoLock, 600
	long := apply(slices.Repeat([]api.Delta{{Kind: api.DeltaAllow, Rule: api.Rule{Who: "ann", What: "door", Actions: []string{"open"}}}}, 20)...)
	list := [][]api.Op{{revoke(door)}, {revoke(door)}, {long}, {revoke(door)}, {revoke(door)}}
	r := played(t, c, list, "0:2 1:3 0:100 2:3 1:100 3:100 4:3 2:2 4:100")
	wantFrees(t, r, "free 6, free 6, free 27, free 6, free 6!")
	var addrs []int
	for _, v := range r.Versions {
		addrs = append(addrs, v.Addr)
		if gone := v.Addr == 6 && v.Point < 0 || v.Addr == 27 && v.Point < 200; (v.Gone >= 0) != gone {
			t.Errorf("%+v", v)
		}
	}
	if !slices.Equal(addrs, []int{6, 48, 27, 6, 27}) || r.Events[2].Code != api.ErrFull {
		t.Errorf("the pages lie at %v; %+v", addrs, r.Events)
	}
}

func wantFrees(t *testing.T, r api.Run, want string) {
	t.Helper()
	var l []string
	for _, x := range r.Trace {
		if x.Kind == api.AccessFree {
			l = append(l, say(x))
		}
	}
	if got := strings.Join(l, ", "); got != want {
		t.Errorf("given back: %s, want %s", got, want)
	}
}

// A piece that a refused write gives back is no version's, though one lay there.
func TestAPieceThatIsNoVersions(t *testing.T) {
	c := config()
	c.Disk = 191
	r := finished(t, c, revoke(door), apply(newSubject("eve")))
	wantFrees(t, r, "free 6, free 6")
	if want := []api.Errno{api.OK, api.ErrFull}; !slices.Equal(codes(r), want) {
		t.Errorf("the codes are %v, want %v", codes(r), want)
	}
	if v := r.Versions; len(v) != 2 || v[0].Gone != 31 || v[1].Gone != -1 {
		t.Errorf("the versions are %+v", v)
	}
}
