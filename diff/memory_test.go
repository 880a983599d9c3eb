package diff_test

import (
	"reflect"
	"slices"
	"strings"
	"testing"
	"unsafe"

	"gatehouse/api"
	"gatehouse/diff"
)

// spare is how much room stands behind a list that is handed in.
const spare = 3

// apart lays a value into memory of its own, each text by itself, and each list with filled room behind it.
func apart[T any](v T) T {
	lay(reflect.ValueOf(&v).Elem())
	return v
}

func lay(v reflect.Value) {
	switch v.Kind() {
	case reflect.String:
		v.SetString(strings.Clone(v.String()))
	case reflect.Struct:
		for i := range v.NumField() {
			lay(v.Field(i))
		}
	case reflect.Slice:
		n := v.Len()
		room := reflect.MakeSlice(v.Type(), n+spare, n+spare)
		reflect.Copy(room, v)
		for i := range n {
			lay(room.Index(i))
		}
		for i := range spare {
			fill(room.Index(n + i))
		}
		v.Set(room.Slice(0, n))
	}
}

func fill(v reflect.Value) {
	switch v.Kind() {
	case reflect.String:
		v.SetString(strings.Clone("spare"))
	case reflect.Struct:
		for i := range v.NumField() {
			fill(v.Field(i))
		}
	}
}

// whole has a value's lists with what stands in the room behind them, in memory of its own.
func whole[T any](v T) T {
	widen(reflect.ValueOf(&v).Elem())
	return v
}

func widen(v reflect.Value) {
	switch v.Kind() {
	case reflect.Struct:
		for i := range v.NumField() {
			widen(v.Field(i))
		}
	case reflect.Slice:
		n := v.Cap()
		all := reflect.MakeSlice(v.Type(), n, n)
		reflect.Copy(all, v.Slice(0, n))
		for i := range n {
			widen(all.Index(i))
		}
		v.Set(all)
	}
}

// policies have changes of all kinds between them, two of them are the same.
func policies(t *testing.T) []api.Policy {
	return []api.Policy{leaning(t), load(t, firstText), load(t, secondText), load(t, secondText), {}, load(t, house), policy("x y x/d d/o o p", "x/d/o x/d/o")}
}

func TestWhatIsHandedInStaysAsItIs(t *testing.T) {
	row := apart(policies(t))
	before := whole(row)
	for _, p := range row {
		for _, q := range row {
			for c := range diff.Between(p, q) {
				c.Triple.Subject = "z"
			}
			for range diff.Between(p, q) {
				break
			}
			diff.List(p, q)
			diff.Same(p, q)
		}
	}
	for n := range row {
		diff.Chain(row[0], row[n:]...)
		diff.Chain(row[n], row...)
	}
	if after := whole(row); !reflect.DeepEqual(after, before) {
		t.Errorf("the policies have become %+v, from %+v", after, before)
	}
}

// places are where the texts and the lists of a value lie, with the lists' spare room.
func places(v reflect.Value, seen map[unsafe.Pointer]bool) {
	switch v.Kind() {
	case reflect.String:
		if v.Len() > 0 {
			seen[unsafe.Pointer(unsafe.StringData(v.String()))] = true
		}
	case reflect.Struct:
		for i := range v.NumField() {
			places(v.Field(i), seen)
		}
	case reflect.Slice:
		all := v.Slice(0, v.Cap())
		for i := range all.Len() {
			seen[all.Index(i).Addr().UnsafePointer()] = true
			places(all.Index(i), seen)
		}
	}
}

// wantApart: a list lies nowhere where something lay before.
func wantApart(t *testing.T, what string, l []api.Change, noted map[unsafe.Pointer]bool) {
	t.Helper()
	mine := map[unsafe.Pointer]bool{}
	places(reflect.ValueOf(l), mine)
	for at := range mine {
		if noted[at] {
			t.Fatalf("%s: the answer %q shares memory", what, written(l))
		}
		noted[at] = true
	}
}

func TestWhatIsAnsweredSharesNothing(t *testing.T) {
	row := apart(policies(t))
	noted := map[unsafe.Pointer]bool{}
	places(reflect.ValueOf(row), noted)
	var kept []any
	for range 2 {
		for i, p := range row {
			for _, q := range row {
				list, each := diff.List(p, q), slices.Collect(diff.Between(p, q))
				wantApart(t, "List", list, noted)
				wantApart(t, "Between", each, noted)
				kept = append(kept, list, each)
			}
			chain := diff.Chain(p, slices.Concat(row[i:], row)...)
			for _, l := range chain {
				wantApart(t, "Chain", l, noted)
			}
			kept = append(kept, chain)
		}
	}
	if len(kept) != 2*(2*len(row)*len(row)+len(row)) {
		t.Errorf("%d answers", len(kept))
	}
}

// What is done with one answer is not seen in another, nor in what is asked again.
func TestAnswersAreApart(t *testing.T) {
	a, b := load(t, firstText), load(t, secondText)
	one, other := diff.List(a, b), diff.List(a, b)
	clear(one[:cap(one)])
	if written(other) != there {
		t.Errorf("%q", written(other))
	}
	wantChanges(t, "asked again", a, b, there)
	chain := diff.Chain(a, b, a, b)
	for i := range chain {
		_ = append(chain[i], api.Change{Triple: triple("z/z/z")})
	}
	clear(chain[0][:cap(chain[0])])
	wantChain(t, "behind a list that was cleared", chain[1:], back, there)
	_ = append(chain[:0], nil, nil, nil)
	wantChain(t, "asked again", diff.Chain(a, b, a, b), there, back, there)
}

// The names' bytes are written over behind the call, as no program may: an iterator that kept a text would tell the new ones.
func TestBetweenKeepsNoText(t *testing.T) {
	bytes := []byte("xdop")
	name := func(i int) string { return unsafe.String(&bytes[i], 1) }
	p := api.Policy{Subjects: []api.Subject{{Name: name(0)}}, Objects: []string{name(1)}, Actions: []string{name(2), name(3)}, Rules: []api.Rule{{Who: name(0), What: name(1), Actions: []string{name(2), name(3)}}}}
	lost, gained := diff.Between(p, api.Policy{}), diff.Between(api.Policy{}, p)
	still := diff.Between(p, policy("x/d/p o", "x/d/o x/d/p"))
	list, chain := diff.List(p, api.Policy{}), diff.Chain(api.Policy{}, p)
	for i := range bytes {
		bytes[i] = '@'
	}
	if goneOver(lost) != "-x/d/o -x/d/p" || goneOver(gained) != "+x/d/o +x/d/p" || goneOver(still) != "" {
		t.Errorf("%q, %q, %q", goneOver(lost), goneOver(gained), goneOver(still))
	}
	if written(list) != "-x/d/o -x/d/p" || written(chain[0]) != "+x/d/o +x/d/p" {
		t.Errorf("%q, %q", written(list), written(chain[0]))
	}
}

// The list of policies may be another one behind the call.
func TestChainKeepsNoPolicy(t *testing.T) {
	row := policies(t)
	want := [][]api.Change{}
	for i := 1; i < len(row); i++ {
		want = append(want, diff.List(row[i-1], row[i]))
	}
	got := diff.Chain(row[0], row[1:]...)
	clear(row)
	for i := range want {
		if !slices.Equal(got[i], want[i]) {
			t.Errorf("the list %d: %q", i, written(got[i]))
		}
	}
}
