package valid_test

import (
	"errors"
	"math"
	"strconv"
	"testing"
	"unsafe"

	"gatehouse/api"
	"gatehouse/valid"
)

// shell has one error inside.
type shell struct{ inner error }

func (s shell) Error() string { return "within" }
func (s shell) Unwrap() error { return s.inner }

// bundle has several; it can't be compared, and a nil may stand in it.
type bundle []error

func (b bundle) Error() string   { return "several" }
func (b bundle) Unwrap() []error { return b }

// claim says by its own Is that it is each number from one to another.
type claim struct{ from, to api.Errno }

func (c claim) Error() string { return "claim" }
func (c claim) Is(e error) bool {
	n, ok := e.(api.Errno)
	return ok && n >= c.from && n <= c.to
}

// maker gives a fault by its own As.
type maker struct{ fault *api.Fault }

func (m maker) Error() string { return "maker" }
func (m maker) As(target any) bool {
	f, ok := target.(**api.Fault)
	if ok {
		*f = m.fault
	}
	return ok
}

func wantTold(t *testing.T, err error, want api.Fault) {
	t.Helper()
	code, line, col, word := valid.Tell(err)
	if got := (api.Fault{Code: code, Line: line, Col: col, Word: word}); got != want {
		t.Errorf("Tell(%#v) = %v, want %v", err, &got, &want)
	}
}

// listed are DOC.md's numbers.
func listed() []api.Errno {
	return []api.Errno{1, 2, 3, 4, 5, 10, 20, 21, 22, 23, 40, 60, 61, 90, 91, 92, 93, 120, 140, 141, 150, 151, 180, 181, 182, 190, 210, 220, 250, 251, 270, 290, 291, 300}
}

func TestTellOfNil(t *testing.T) {
	wantTold(t, nil, api.Fault{})
}

func TestTellOfNumbers(t *testing.T) {
	known := map[api.Errno]bool{}
	for _, e := range listed() {
		known[e] = true
	}
	for n := api.Errno(-400); n <= 700; n++ {
		want := api.ErrArg
		if known[n] {
			want = n
		}
		wantTold(t, n, api.Fault{Code: want})
		wantTold(t, shell{shell{n}}, api.Fault{Code: want})
		wantTold(t, errors.Join(nil, errors.New("x"), n), api.Fault{Code: want})
	}
	wantTold(t, api.Errno(math.MinInt), api.Fault{Code: api.ErrArg})
	wantTold(t, api.Errno(math.MaxInt), api.Fault{Code: api.ErrArg})
}

func TestTheLeastNumberCounts(t *testing.T) {
	all := listed()
	for i, a := range all {
		for _, b := range all[i:] {
			wantTold(t, errors.Join(a, b), api.Fault{Code: a})
			wantTold(t, bundle{b, nil, shell{a}}, api.Fault{Code: a})
			wantTold(t, bundle{api.Errno(0), b, bundle{api.Errno(-1), b, a}}, api.Fault{Code: a})
		}
	}
	wantTold(t, errors.Join(errors.New("x"), api.ErrRoom, api.ErrMany), api.Fault{Code: api.ErrMany})
	wantTold(t, claim{6, 400}, api.Fault{Code: api.ErrName})
	wantTold(t, claim{250, 250}, api.Fault{Code: api.ErrWorn})
	wantTold(t, errors.Join(api.ErrFull, claim{151, 230}), api.Fault{Code: api.ErrBlock})
	wantTold(t, claim{11, 19}, api.Fault{Code: api.ErrArg})
}

func TestTellOfOtherErrors(t *testing.T) {
	for _, err := range []error{errors.New("x"), errors.New(""), shell{errors.New("error 40")}, shell{nil}, bundle{}, bundle(nil), bundle{nil, nil}, errors.Join(errors.New("x")), strconv.ErrRange, api.OK, shell{api.OK}} {
		wantTold(t, err, api.Fault{Code: api.ErrArg})
	}
}

// odd are faults of every sort: they are told as they stand.
func odd() []api.Fault {
	return []api.Fault{
		{Code: 60, Line: 3, Col: 7, Word: "bob"},
		{},
		{Code: api.ErrLong},
		{Code: 7, Line: -1, Col: math.MinInt, Word: "\xff\x00"},
		{Code: -9, Line: math.MaxInt, Col: 0, Word: "a b"},
		{Code: api.ErrArg, Word: "only a word"},
	}
}

func TestTellOfFaults(t *testing.T) {
	for _, f := range odd() {
		other := &api.Fault{Code: 1, Line: 1, Col: 1, Word: "other"}
		for _, err := range []error{&f, shell{&f}, shell{shell{shell{&f}}}, errors.Join(&f), errors.Join(errors.New("x"), nil, &f), errors.Join(&f, other), bundle{nil, shell{bundle{&f}}, other}, maker{&f}, shell{maker{&f}},
			errors.Join(api.ErrArg, api.ErrNil, &f, api.ErrArg), errors.Join(shell{api.ErrArg}, shell{&f}), bundle{claim{0, 999}, &f}, errors.Join(&f, (*api.Fault)(nil))} {
			before := f
			wantTold(t, err, f)
			if f != before {
				t.Errorf("the fault has changed to %v", &f)
			}
		}
	}
}

func TestTellOfANilFault(t *testing.T) {
	none := (*api.Fault)(nil)
	some := &api.Fault{Code: 60, Line: 3, Col: 7, Word: "bob"}
	for _, err := range []error{none, shell{none}, shell{shell{none}}, errors.Join(none), errors.Join(api.ErrArg, none), errors.Join(none, some), bundle{nil, shell{none}, some}, maker{nil}} {
		wantTold(t, err, api.Fault{Code: api.ErrNil})
	}
}

func TestTellOfWhatTheLayersAnswer(t *testing.T) {
	_, err := valid.Load("subject ann; role ann;")
	wantTold(t, shell{err}, api.Fault{Code: api.ErrTwice, Line: 1, Col: 19, Word: "ann"})
	_, err = valid.Load("role @")
	wantTold(t, err, api.Fault{Code: api.ErrByte, Line: 1, Col: 6, Word: "@"})
	wantTold(t, valid.Check(api.Policy{Roles: []string{"r", "r"}}), api.Fault{Code: api.ErrTwice, Word: "r"})
	wantTold(t, valid.Check(api.Policy{}), api.Fault{})
}

func TestWhatIsToldSharesNothing(t *testing.T) {
	f := &api.Fault{Code: 60, Word: string([]byte("bob"))}
	if _, _, _, word := valid.Tell(f); unsafe.StringData(word) == unsafe.StringData(f.Word) {
		t.Error("the word is the fault's own")
	}
}
