package ambig

import (
	"reflect"
	"slices"
	"testing"

	"tracery/api"
	"tracery/charset"
)

// piece is the memory of a list, up to its capacity; it holds the list, since memory that nobody
// holds is given to another list.
type piece struct {
	from, to uintptr
	held     reflect.Value
}

// pieces is the memory of all lists in a value.
func pieces(v reflect.Value) []piece {
	var list []piece
	switch v.Kind() {
	case reflect.Struct:
		for i := range v.NumField() {
			list = append(list, pieces(v.Field(i))...)
		}
	case reflect.Slice:
		if v.Cap() > 0 {
			list = append(list, piece{v.Pointer(), v.Pointer() + uintptr(v.Cap())*v.Type().Elem().Size(), v})
		}
		for i := range v.Len() {
			list = append(list, pieces(v.Index(i))...)
		}
	}
	return list
}

func twoSums() api.Gram { return gram(2, "A>A+A", "A>B", "A>[0-9]", "B>[5-9a-z]") }

func twoFilters() api.Filters {
	return api.Filters{Bans: []api.Ban{ban(0, 2, 0), ban(0, 2, 0), ban(0, 0, 1)}, Follow: []api.Set{set("[a-z]"), set("[m]")}, Reject: []int{-1, -1}}
}

// No list of an answer shares memory with another answer or an argument.
func TestNewMemory(t *testing.T) {
	g, f, w := twoSums(), twoFilters(), []byte("7+a")
	list := slices.Concat(pieces(reflect.ValueOf(g)), pieces(reflect.ValueOf(f)), pieces(reflect.ValueOf(w)))
	for range 2 {
		signs, e1 := Signs(g, f)
		mapped, e2 := Map(g, f, w)
		same, e3 := Map(g, f, []byte("0"))
		x, e4 := Search(g, f, 5, 99)
		if e1 != api.OK || e2 != api.OK || e3 != api.OK || e4 != api.OK || len(signs) != 5 || len(mapped) != 3 || len(same) != 1 || len(x.Word) != 1 {
			t.Fatalf("%q %q %q %+v", signs, mapped, same, x)
		}
		list = slices.Concat(list, pieces(reflect.ValueOf(signs)), pieces(reflect.ValueOf(mapped)), pieces(reflect.ValueOf(same)), pieces(reflect.ValueOf(x)))
	}
	slices.SortFunc(list, func(a, b piece) int { return int(a.from) - int(b.from) })
	for i := range list[1:] {
		if list[i].to > list[i+1].from {
			t.Errorf("lists share memory: %v %v", list[i], list[i+1])
		}
	}
}

// What is written into an answer is seen by nobody, and an argument stays as it was.
func TestNothingIsKept(t *testing.T) {
	g, f, w := twoSums(), twoFilters(), []byte("7+m1")
	for range 2 {
		signs, _ := Signs(g, f)
		mapped, _ := Map(g, f, w)
		x, _ := Search(g, f, 5, 999)
		if string(signs) != "+05am" || string(mapped) != "5+m0" || !same(x, found(api.QWitness, "5", 4)) {
			t.Errorf("%q %q %+v", signs, mapped, x)
		}
		clear(signs)
		clear(mapped)
		clear(x.Word)
		if !reflect.DeepEqual(g, twoSums()) || !reflect.DeepEqual(f, twoFilters()) || string(w) != "7+m1" {
			t.Error("an argument changed")
		}
	}
}

// What lies behind a list's length is neither read nor written.
func TestBehindTheLists(t *testing.T) {
	more, f := gram(2, "A>A+Ax", "A>B", "A>[0-9]", "B>[5-9a-z]", "A>[0-9]", "B>y"), twoFilters()
	f.Bans = append(f.Bans, ban(9, 9, 9))
	f.Follow = append(f.Follow, set("[3]"))
	f.Reject = append(f.Reject, 99)
	cut := more
	cut.Rules = slices.Clone(more.Rules)[:4]
	cut.Rules[0].Rhs = more.Rules[0].Rhs[:3]
	less := api.Filters{Bans: f.Bans[:3], Follow: f.Follow[:2], Reject: f.Reject[:2]}
	w := []byte("7+m1zzz")
	signs, e1 := Signs(cut, less)
	mapped, e2 := Map(cut, less, w[:4])
	x, e3 := Search(cut, less, 5, 999)
	if e1 != api.OK || e2 != api.OK || e3 != api.OK || string(signs) != "+05am" || string(mapped) != "5+m0" || !same(x, found(api.QWitness, "5", 4)) {
		t.Errorf("%q %q %+v (%d %d %d)", signs, mapped, x, e1, e2, e3)
	}
	if f.Bans[3] != ban(9, 9, 9) || f.Follow[2] != charset.Of('3') || f.Reject[2] != 99 || string(w) != "7+m1zzz" || len(more.Rules[0].Rhs) != 4 {
		t.Error("what lies behind a list changed")
	}
}

// Lists that are nil and lists that are empty are the same.
func TestEmptyLists(t *testing.T) {
	for _, g := range []api.Gram{{Nts: 1}, {Nts: 1, Rules: []api.Rule{}}, {Nts: 1, Rules: []api.Rule{{}}}, {Nts: 1, Rules: []api.Rule{{Rhs: []api.KSym{}}}}} {
		for _, f := range []api.Filters{{}, {Bans: []api.Ban{}, Follow: []api.Set{}, Reject: []int{}}} {
			for _, w := range [][]byte{nil, {}} {
				signs, e1 := Signs(g, f)
				mapped, e2 := Map(g, f, w)
				x, e3 := Search(g, f, 9, 9)
				if len(signs)+len(mapped) > 0 || !same(x, found(api.QNone, "", 1)) || e1 != api.OK || e2 != api.OK || e3 != api.OK {
					t.Errorf("%+v: %q %q %+v", g, signs, mapped, x)
				}
			}
		}
	}
}
