package forest

import (
	"bytes"
	"reflect"
	"slices"
	"testing"

	"tracery/api"
)

// piece is the memory of a list, up to its capacity; it holds the list, since memory that nobody
// holds is given to another list.
type piece struct {
	from, to uintptr
	held     reflect.Value
}

// pieces is the memory of all lists in a value.
func pieces(v reflect.Value) []piece {
	var list []piece
	switch v.Kind() {
	case reflect.Struct:
		for i := range v.NumField() {
			list = append(list, pieces(v.Field(i))...)
		}
	case reflect.Slice:
		if v.Cap() > 0 {
			list = append(list, piece{v.Pointer(), v.Pointer() + uintptr(v.Cap())*v.Type().Elem().Size(), v})
		}
		for i := range v.Len() {
			list = append(list, pieces(v.Index(i))...)
		}
	}
	return list
}

func twoLists() api.Gram { return gram(2, "A>AB", "A>", "B>b", "B>bb", "B>b") }

// No two lists of an answer share memory, and none shares any with another answer or an argument.
func TestNewMemory(t *testing.T) {
	g, w := twoLists(), []byte("bbbb")
	list := append(pieces(reflect.ValueOf(g)), pieces(reflect.ValueOf(w))...)
	for range 2 {
		f, _ := Build(g, w)
		trees, _ := Trees(g, w, 20)
		if len(trees) != 20 {
			t.Fatalf("%d trees", len(trees))
		}
		list = append(list, pieces(reflect.ValueOf(f))...)
		list = append(list, pieces(reflect.ValueOf(trees))...)
	}
	slices.SortFunc(list, func(a, b piece) int { return int(a.from) - int(b.from) })
	for i := range list[1:] {
		if list[i].to > list[i+1].from {
			t.Errorf("lists share memory: %v %v", list[i], list[i+1])
		}
	}
}

// spoil changes all that can be changed in a value.
func spoil(v reflect.Value) {
	switch v.Kind() {
	case reflect.Int:
		v.SetInt(v.Int() + 1)
	case reflect.Uint8:
		v.SetUint(v.Uint() ^ 255)
	case reflect.Struct:
		for i := range v.NumField() {
			spoil(v.Field(i))
		}
	case reflect.Slice:
		for i := range v.Len() {
			spoil(v.Index(i))
		}
	}
}

// What is written into an answer is seen by nobody, and an argument stays as it was.
func TestNothingIsKept(t *testing.T) {
	g, w := twoLists(), []byte("bbbb")
	before := tell(t, g, string(w), 20)
	f, _ := Build(g, w)
	trees, _ := Trees(g, w, 20)
	Size(f)
	if forestText(f) != before.forest {
		t.Error("Size changed a forest")
	}
	spoil(reflect.ValueOf(&f).Elem())
	spoil(reflect.ValueOf(&trees).Elem())
	if !reflect.DeepEqual(g, twoLists()) || string(w) != "bbbb" {
		t.Error("an argument changed")
	}
	if tell(t, g, string(w), 20) != before {
		t.Error("an answer changed")
	}
}

// What lies behind a list's length is neither read nor written.
func TestBehindTheLists(t *testing.T) {
	more := gram(2, "A>ABb", "A>", "B>bA", "B>bb", "A>b")
	before := gram(2, "A>ABb", "A>", "B>bA", "B>bb", "A>b")
	cut := more
	cut.Rules = slices.Clone(more.Rules)[:4]
	cut.Rules[0].Rhs = more.Rules[0].Rhs[:2]
	cut.Rules[2].Rhs = more.Rules[2].Rhs[:1]
	w := []byte("bbbb")
	want := gram(2, "A>AB", "A>", "B>b", "B>bb")
	for n := range 5 {
		f, _ := Build(cut, w[:n])
		plain, _ := Build(want, bytes.Clone(w[:n]))
		if forestText(f) != forestText(plain) || tell(t, cut, string(w[:n]), 9) != tell(t, want, string(w[:n]), 9) {
			t.Errorf("%d bytes: %s", n, forestText(f))
		}
	}
	if !reflect.DeepEqual(more, before) || string(w) != "bbbb" {
		t.Error("what lies behind a list changed")
	}
}

// Lists that are nil and lists that are empty are the same.
func TestEmptyLists(t *testing.T) {
	for _, g := range []api.Gram{{Nts: 1}, {Nts: 1, Rules: []api.Rule{}}, {Nts: 1, Rules: []api.Rule{{}}}, {Nts: 1, Rules: []api.Rule{{Rhs: []api.KSym{}}}}} {
		for _, w := range [][]byte{nil, {}} {
			f, e1 := Build(g, w)
			n, e2 := Count(g, w)
			list, e3 := Trees(g, w, 5)
			if e1 != api.OK || e2 != api.OK || e3 != api.OK || len(f.Nodes) != len(g.Rules) || n != len(g.Rules) || len(list) != len(g.Rules) || f.Root != len(g.Rules)-1 {
				t.Errorf("%+v: %v %d %v", g, f, n, list)
			}
		}
	}
}
