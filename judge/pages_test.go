package judge_test

import (
	"math"
	"slices"
	"testing"

	"gatehouse/api"
	"gatehouse/judge"
)

// 27.6 to 27.8: the pages, and the readers' steps.

func unpoisoned(_ [][]api.Op, r api.Run) bool { return judge.Unpoisoned(r) }

func few(_ [][]api.Op, r api.Run) bool { return judge.Few(r) }

func quick(_ [][]api.Op, r api.Run) bool { return judge.Quick(r) }

func TestRefusedLoads(t *testing.T) {
	for kind := int8(-1); kind < 10; kind++ {
		for place := range 5 {
			_, r := run()
			r.Trace = slices.Insert(r.Trace, place%(len(r.Trace)+1), api.Access{Kind: kind, Addr: 7, Value: 3})
			if got := judge.Unpoisoned(r); got != (kind != api.AccessLoad) {
				t.Errorf("a refused access of the kind %d at %d: %v", kind, place, got)
			}
			r.Trace[place%len(r.Trace)].Good = true
			if !judge.Unpoisoned(r) {
				t.Errorf("an access of the kind %d at %d that was not refused", kind, place)
			}
		}
	}
	wantRows(t, unpoisoned, []row{
		{"no trace", func(r *api.Run) { r.Trace = nil }, true},
		{"a load of what looks poisoned, and was not refused", func(r *api.Run) { r.Trace[0].Value = api.Poison }, true},
		{"the first of many", func(r *api.Run) { r.Trace[0].Good = false }, false},
	})
}

func TestPagesOfReads(t *testing.T) {
	wantRows(t, unpoisoned, []row{
		{"as they are", func(r *api.Run) {}, true},
		{"given back next to the end", func(r *api.Run) { r.Versions[0].Gone = 6 }, true},
		{"given back at the end", func(r *api.Run) { r.Versions[0].Gone = 5 }, false},
		{"given back ahead of the end", func(r *api.Run) { r.Versions[0].Gone = 4 }, false},
		{"given back at 0", func(r *api.Run) { r.Versions[0].Gone = 0 }, false},
		{"never given back", func(r *api.Run) { r.Versions[0].Gone = -1 }, true},
		{"never given back, told otherwise", func(r *api.Run) { r.Versions[0].Gone = -5 }, true},
		{"given back, and the read in progress", func(r *api.Run) { r.Events[early].Ended = -1 }, false},
		{"never given back, and the read in progress", func(r *api.Run) { r.Events[early].Ended, r.Versions[0].Gone = -1, -1 }, true},
		{"given back at 0, and the read in progress", func(r *api.Run) { r.Events[early].Ended, r.Versions[0].Gone = -1, 0 }, false},
		{"the read has not looked", func(r *api.Run) { r.Events[early].Ended, r.Events[early].Point = -1, -1 }, true},
		{"the read has not looked, and there is an earlier version", func(r *api.Run) {
			r.Versions[0].Point, r.Events[early].Ended, r.Events[early].Point = -9, -1, -1
		}, true},
		{"the read looked at 0", func(r *api.Run) { r.Versions[0].Gone, r.Events[early].Point = 5, 0 }, false},
		{"the read looked at the point of the next one: the old one is its own", func(r *api.Run) { r.Versions[0].Gone, r.Events[early].Point = 5, 4 }, false},
		{"the read looked behind that", func(r *api.Run) { r.Versions[0].Gone, r.Events[early].Point = 5, 5 }, true},
		{"a version that was asked", func(r *api.Run) { r.Versions[1].Gone = 19 }, false},
		{"a version that was asked, next to its end", func(r *api.Run) { r.Versions[1].Gone = 20 }, true},
		{"a refused read", func(r *api.Run) { r.Versions[0].Gone, r.Events[early].Code = 5, api.ErrSlot }, false},
		{"a broken one, or one that tells another version", func(r *api.Run) {
			r.Events[early].Broken, r.Events[late].Version = true, 3
		}, true},
		{"a write", func(r *api.Run) { r.Versions[0].Gone, r.Events[early].Kind = 5, api.OpUpdate }, true},
		{"a register", func(r *api.Run) { r.Versions[0].Gone, r.Events[early].Kind = 5, api.OpRegister }, true},
		{"no version counts", func(r *api.Run) { r.Versions = r.Versions[1:]; r.Events[early].Ended = -1 }, true},
		{"no versions", func(r *api.Run) { r.Versions = nil }, true},
		{"of two with one point the first one", func(r *api.Run) {
			r.Versions = append(r.Versions, api.Version{Point: -1, Gone: 0})
		}, true},
		{"likewise", func(r *api.Run) {
			r.Versions = slices.Insert(r.Versions, 0, api.Version{Point: -1, Gone: 0})
		}, false},
	})
}

func TestFewPagesAreOut(t *testing.T) {
	more := func(i, n int) func(r *api.Run) { return func(r *api.Run) { r.Live[i] = n } }
	wantRows(t, few, []row{
		{"as they are", func(r *api.Run) {}, true},
		{"nothing is told", func(r *api.Run) { r.Live = nil }, true},
		{"none are out", func(r *api.Run) { r.Live = make([]int, 40) }, true},
		{"less than none", func(r *api.Run) { r.Live[0] = math.MinInt }, true},
		{"two ahead of a write", more(0, 2), false},
		{"two at a write's beginning", more(1, 2), true},
		{"three at a write's beginning", more(1, 3), false},
		{"two next to a write's end", more(8, 2), true},
		{"two at a write's end", more(9, 2), false},
		{"two at the beginning of the next one", more(20, 2), true},
		{"two at the beginning of one that fails", more(30, 2), true},
		{"two next to its end", more(32, 2), true},
		{"two at its end", more(33, 2), false},
		{"two with one in progress", more(36, 2), true},
		{"two at the last moment", more(39, 2), true},
		{"three with one in progress", more(39, 3), false},
		{"as many as can be", more(39, math.MaxInt), false},
		{"three with two writes", func(r *api.Run) { r.Events[begun].Began, r.Live[25] = 25, 3 }, true},
		{"three with two writes, a moment ahead", func(r *api.Run) { r.Events[begun].Began, r.Live[24] = 25, 3 }, false},
		{"a write that began below 0", func(r *api.Run) { r.Events[begun].Began, r.Live[0] = -5, 2 }, true},
		{"a write in progress, told otherwise", func(r *api.Run) { r.Events[begun].Ended, r.Live[39] = -5, 2 }, true},
		{"a write that ended at 0", func(r *api.Run) { r.Events[refused].Began, r.Events[refused].Ended, r.Live[0] = 0, 0, 2 }, false},
		{"a write that ended ahead of its beginning", func(r *api.Run) {
			r.Events[refused].Began, r.Events[refused].Ended, r.Live[10] = 14, 9, 2
		}, false},
		{"such a one takes away none", func(r *api.Run) {
			r.Events[refused].Began, r.Events[refused].Ended, r.Live[25] = 27, 23, 2
		}, true},
		{"a write that ends behind all that is told", func(r *api.Run) {
			r.Events[begun].Ended, r.Events[begun].Code, r.Live[39] = 1000, api.ErrRoom, 2
		}, true},
		{"a write that ends with the last moment", func(r *api.Run) {
			r.Events[begun].Ended, r.Events[begun].Code, r.Live[39] = 39, api.ErrRoom, 2
		}, false},
		{"a write that ends next to the last moment", func(r *api.Run) {
			r.Events[begun].Ended, r.Events[begun].Code, r.Live[39] = 40, api.ErrRoom, 2
		}, true},
		{"a write that begins behind all that is told", func(r *api.Run) { r.Events[begun].Began, r.Live[39] = 40, 2 }, false},
		{"a write that begins far behind", func(r *api.Run) { r.Events[begun].Began, r.Live[39] = math.MaxInt, 2 }, false},
		{"a check is no write", func(r *api.Run) { r.Events[begun].Kind, r.Live[38] = api.OpCheck, 2 }, false},
		{"a version is no write", func(r *api.Run) { r.Events[begun].Kind, r.Live[38] = api.OpVersion, 2 }, false},
		{"a register is no write", func(r *api.Run) { r.Events[begun].Kind, r.Live[38] = api.OpRegister, 2 }, false},
		{"an update is one", func(r *api.Run) { r.Events[begun].Kind, r.Live[38] = api.OpUpdate, 2 }, true},
		{"an apply is one", func(r *api.Run) { r.Events[begun].Kind, r.Live[38] = api.OpApply, 2 }, true},
		{"what is told of the moments behind the picks", func(r *api.Run) { r.Live = append(r.Live, 2, 2, 2) }, true},
		{"one more than may be there", func(r *api.Run) { r.Live = append(r.Live, 2, 2, 3) }, false},
	})
}

func TestPagesAreGivenBack(t *testing.T) {
	wantRows(t, few, []row{
		{"at the point", func(r *api.Run) { r.Versions[0].Gone = 4 }, false},
		{"ahead of the point", func(r *api.Run) { r.Versions[0].Gone = 3 }, false},
		{"next to the point", func(r *api.Run) { r.Versions[0].Gone = 5 }, true},
		{"at the end", func(r *api.Run) { r.Versions[0].Gone = 9 }, true},
		{"behind the end", func(r *api.Run) { r.Versions[0].Gone = 10 }, false},
		{"never", func(r *api.Run) { r.Versions[0].Gone = -1 }, false},
		{"of the last write, never", func(r *api.Run) { r.Versions[1].Gone = -1 }, false},
		{"of the last write, behind the end", func(r *api.Run) { r.Versions[1].Gone = 30 }, false},
		{"of the last version, ahead of its time", func(r *api.Run) { r.Versions[2].Gone = 0 }, true},
		{"never, and the write is in progress", func(r *api.Run) { r.Versions[0].Gone, r.Events[revoked].Ended = -1, -1 }, true},
		{"never, and the write has failed", func(r *api.Run) { r.Versions[0].Gone, r.Events[revoked].Code = -1, api.ErrRoom }, true},
		{"never, and it is a read", func(r *api.Run) { r.Versions[0].Gone, r.Events[revoked].Kind, r.Live = -1, api.OpCheck, nil }, true},
		{"never, of an update", func(r *api.Run) { r.Versions[0].Gone, r.Events[revoked].Kind = -1, api.OpUpdate }, false},
		{"never, of an apply", func(r *api.Run) { r.Versions[0].Gone, r.Events[revoked].Kind = -1, api.OpApply }, false},
		{"the write has no version", func(r *api.Run) { r.Versions = r.Versions[1:] }, true},
		{"no versions", func(r *api.Run) { r.Versions = nil }, true},
		{"a write without a point, of an earlier version", func(r *api.Run) {
			r.Events[refused].Code, r.Events[refused].Point, r.Versions[0].Point, r.Versions[0].Gone = api.OK, -1, -2, 9
		}, true},
		{"a write that went well without a point: no version counts", func(r *api.Run) {
			r.Events[refused].Code, r.Events[refused].Point = api.OK, -1
		}, true},
		{"at 0, of a write without a point", func(r *api.Run) {
			r.Versions[0].Point, r.Versions[0].Gone = -2, 0
			r.Events, r.Live = []api.Event{{Kind: api.OpApply, Point: -1}}, nil
		}, true},
		{"of two with one point the first one", func(r *api.Run) {
			r.Versions = append(r.Versions, api.Version{Point: -1, Gone: -1})
		}, true},
		{"likewise", func(r *api.Run) {
			r.Versions = slices.Insert(r.Versions, 0, api.Version{Point: -1, Gone: -1})
		}, false},
	})
}

// So many moments as may be picked, and many writes.
func TestManyMoments(t *testing.T) {
	r := api.Run{Live: ones(api.MaxPicks)}
	for i := range 16384 {
		r.Events = append(r.Events, api.Event{Kind: api.OpUpdate, Began: 64*i + i%7, Ended: -1, Point: -1})
		r.Live[64*i+63] = 2 + i
	}
	if !judge.Few(r) {
		t.Error("one more than the writes in progress")
	}
	r.Live[64*9000+5]++
	r.Live[64*9000+4] = 9002
	if judge.Few(r) { // the write 9000 began at the moment 5 of these 64
		t.Error("two more than the writes in progress")
	}
}

func TestStepsOfReads(t *testing.T) {
	steps := func(n int) func(r *api.Run) { return func(r *api.Run) { r.Events[late].Steps = n } }
	inProgress := func(n int) func(r *api.Run) { return func(r *api.Run) { r.Events[open].Steps = n } }
	wantRows(t, quick, []row{
		{"as they are", func(r *api.Run) {}, true},
		{"as many as may be", steps(17), true},
		{"one more", steps(18), false},
		{"as many as there are", steps(math.MaxInt), false},
		{"less than none", steps(math.MinInt), true},
		{"one less, in progress", inProgress(16), true},
		{"as many, in progress", inProgress(17), false},
		{"one more, in progress", inProgress(18), false},
		{"as many, in progress, told otherwise", func(r *api.Run) { r.Events[open].Steps, r.Events[open].Ended = 17, -8 }, false},
		{"as many, ended at 0", func(r *api.Run) { r.Events[open].Steps, r.Events[open].Ended = 17, 0 }, true},
		{"a version", func(r *api.Run) { r.Events[asked].Steps = 18 }, false},
		{"a version, as many", func(r *api.Run) { r.Events[asked].Steps = 17 }, true},
		{"a version in progress", func(r *api.Run) { r.Events[asked].Steps, r.Events[asked].Ended = 17, -1 }, false},
		{"a refused check", func(r *api.Run) { r.Events[late].Steps, r.Events[late].Code = 18, api.ErrSlot }, false},
		{"a write", func(r *api.Run) { r.Events[restored].Steps = 1000 }, true},
		{"a write in progress", func(r *api.Run) { r.Events[begun].Steps = 1000 }, true},
		{"a register", func(r *api.Run) { r.Events[other].Steps = 1000 }, true},
		{"an operation of no kind", func(r *api.Run) { r.Events[late].Steps, r.Events[late].Kind = 1000, 9 }, true},
	})
}

func TestTheLargestPage(t *testing.T) {
	take := func(value int, good bool) api.Access {
		return api.Access{Kind: api.AccessTake, Addr: 99, Value: value, Old: 99, Good: good}
	}
	for _, x := range []struct {
		what  string
		sizes []int
		trace []api.Access
		most  int
	}{
		{"nothing", nil, nil, 11},
		{"sizes below 5", []int{-8, 0, 3, 4, 5}, nil, 11},
		{"a version's", []int{6}, nil, 14},
		{"the greatest of some, the first", []int{10, 8, 9}, nil, 20},
		{"the greatest of some, the last", []int{8, 9, 10}, nil, 20},
		{"what was taken", nil, []api.Access{take(21, true)}, 35},
		{"what was taken, and refused", nil, []api.Access{take(21, false)}, 35},
		{"the greatest that was taken", []int{4}, []api.Access{take(8, true), take(21, true), take(6, true)}, 35},
		{"a version's is greater", []int{72}, []api.Access{take(21, true)}, 113},
		{"what was taken is greater", []int{21}, []api.Access{take(72, true)}, 113},
		{"other accesses are not asked", []int{6}, []api.Access{{}, {Kind: 1, Value: 90, Good: true}, {Kind: 2, Value: 90}, {Kind: 3, Value: 90}, {Kind: 4, Value: 90}, {Kind: 6, Value: 90}, {Kind: 7, Value: 90}, {Kind: 8, Value: 90}, {Kind: 9, Value: 90}}, 14},
		{"all below 0", []int{-8}, []api.Access{take(-9, true)}, 11},
	} {
		r := api.Run{Trace: x.trace}
		for _, size := range x.sizes {
			r.Versions = append(r.Versions, api.Version{Size: size})
		}
		for _, kind := range []int8{api.OpCheck, api.OpVersion} {
			for ended, most := range map[int]int{0: x.most, -1: x.most - 1} {
				r.Events = []api.Event{{Kind: kind, Ended: ended, Steps: most}}
				if !judge.Quick(r) {
					t.Errorf("%s: %d steps are too many, ended %d", x.what, most, ended)
				}
				r.Events[0].Steps++
				if judge.Quick(r) {
					t.Errorf("%s: %d steps are not too many, ended %d", x.what, most+1, ended)
				}
			}
		}
	}
}
