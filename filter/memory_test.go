package filter

import (
	"bytes"
	"reflect"
	"slices"
	"testing"

	"tracery/api"
	"tracery/charset"
)

// piece is the memory of a list, up to its capacity; it holds the list, since memory that nobody
// holds is given to another list.
type piece struct {
	from, to uintptr
	held     reflect.Value
}

// pieces is the memory of all lists in a value.
func pieces(v reflect.Value) []piece {
	var list []piece
	switch v.Kind() {
	case reflect.Struct:
		for i := range v.NumField() {
			list = append(list, pieces(v.Field(i))...)
		}
	case reflect.Slice:
		if v.Cap() > 0 {
			list = append(list, piece{v.Pointer(), v.Pointer() + uintptr(v.Cap())*v.Type().Elem().Size(), v})
		}
		for i := range v.Len() {
			list = append(list, pieces(v.Index(i))...)
		}
	}
	return list
}

func twoLists() api.Gram { return gram(3, "A>AB", "A>", "B>b", "B>bb", "B>b", "C>bb") }

// allFilters has bans in no order, one of them twice; some nodes of its forests have the same Ban.
func allFilters() api.Filters {
	return api.Filters{
		Bans:   []api.Ban{ban(0, 1, 4), ban(0, 0, 2), ban(0, 1, 3), ban(0, 1, 4), ban(3, 1, 0)},
		Follow: []api.Set{charset.Of('x'), {}, charset.Of('b')},
		Reject: []int{-1, 2, 1},
	}
}

// someFilters leave more trees.
func someFilters() api.Filters { return bans(ban(0, 1, 4), ban(0, 1, 5), ban(0, 1, 4)) }

// No two lists of an answer share memory, and none shares any with another answer or an argument.
func TestNewMemory(t *testing.T) {
	g, f, w := twoLists(), someFilters(), []byte("bbbb")
	list := slices.Concat(pieces(reflect.ValueOf(g)), pieces(reflect.ValueOf(f)), pieces(reflect.ValueOf(w)))
	for range 2 {
		x, _ := Build(g, f, w)
		trees, _ := Trees(g, f, w, 20)
		banned := 0
		for _, n := range x.Nodes {
			banned += len(n.Ban)
		}
		if len(trees) != 5 || banned < 5 {
			t.Fatalf("%d trees, %s", len(trees), forestText(x))
		}
		list = slices.Concat(list, pieces(reflect.ValueOf(x)), pieces(reflect.ValueOf(trees)))
	}
	slices.SortFunc(list, func(a, b piece) int { return int(a.from) - int(b.from) })
	for i := range list[1:] {
		if list[i].to > list[i+1].from {
			t.Errorf("lists share memory: %v %v", list[i], list[i+1])
		}
	}
}

// spoil changes all that can be changed in a value.
func spoil(v reflect.Value) {
	switch v.Kind() {
	case reflect.Int:
		v.SetInt(v.Int() + 1)
	case reflect.Uint8:
		v.SetUint(v.Uint() ^ 255)
	case reflect.Struct:
		for i := range v.NumField() {
			spoil(v.Field(i))
		}
	case reflect.Slice:
		for i := range v.Len() {
			spoil(v.Index(i))
		}
	}
}

// What is written into an answer is seen by nobody, and an argument stays as it was.
func TestNothingIsKept(t *testing.T) {
	for _, make := range []func() api.Filters{allFilters, someFilters, func() api.Filters { return api.Filters{} }} {
		g, f, w := twoLists(), make(), []byte("bbbb")
		before := tell(t, g, f, string(w), 20)
		x, _ := Build(g, f, w)
		list, _ := Trees(g, f, w, 20)
		for _, tree := range list {
			text := treeText(tree)
			if Ok(g, f, w, tree) != api.OK || treeText(tree) != text {
				t.Errorf("Ok changed %s to %s", text, treeText(tree))
			}
		}
		Right(g, f)
		spoil(reflect.ValueOf(&x).Elem())
		spoil(reflect.ValueOf(&list).Elem())
		if !reflect.DeepEqual(g, twoLists()) || !reflect.DeepEqual(f, make()) || string(w) != "bbbb" {
			t.Error("an argument changed")
		}
		if tell(t, g, f, string(w), 20) != before {
			t.Error("an answer changed")
		}
	}
}

// What lies behind a list's length is neither read nor written.
func TestBehindTheLists(t *testing.T) {
	more, f := gram(3, "A>ABb", "A>", "B>bA", "B>bb", "B>b", "C>bb", "A>b"), allFilters()
	f.Bans = append(f.Bans, ban(0, 0, 0), ban(9, 9, 9))
	f.Reject = append(f.Reject, 99)
	f.Follow = append(f.Follow, charset.Of('b'))
	cut := more
	cut.Rules = slices.Clone(more.Rules)[:6]
	cut.Rules[0].Rhs = more.Rules[0].Rhs[:2]
	cut.Rules[2].Rhs = more.Rules[2].Rhs[:1]
	less := api.Filters{Bans: f.Bans[:4], Follow: f.Follow[:1], Reject: f.Reject[:2]}
	want := api.Filters{Bans: allFilters().Bans[:4:4], Follow: []api.Set{charset.Of('x')}, Reject: []int{-1, 2}}
	w := []byte("bbbb")
	for n := range 5 {
		x, _ := Build(cut, less, w[:n])
		plain, _ := Build(twoLists(), want, bytes.Clone(w[:n]))
		if forestText(x) != forestText(plain) || tell(t, cut, less, string(w[:n]), 9) != tell(t, twoLists(), want, string(w[:n]), 9) {
			t.Errorf("%d bytes: %s", n, forestText(x))
		}
	}
	if len(f.Bans) != 7 || f.Bans[5] != ban(0, 0, 0) || f.Reject[3] != 99 || f.Reject[2] != 1 || f.Follow[3] != charset.Of('b') || string(w) != "bbbb" || len(more.Rules[0].Rhs) != 3 {
		t.Error("what lies behind a list changed")
	}
	tree := api.Tree{Rule: 1, Kids: []api.Tree{leaf('b')}[:0]}
	if code := Ok(cut, less, w[:0], tree); code != api.OK {
		t.Error(code)
	}
}

// Lists that are nil and lists that are empty are the same.
func TestEmptyLists(t *testing.T) {
	for _, g := range []api.Gram{{Nts: 1}, {Nts: 1, Rules: []api.Rule{}}, {Nts: 1, Rules: []api.Rule{{}}}, {Nts: 1, Rules: []api.Rule{{Rhs: []api.KSym{}}}}} {
		for _, f := range []api.Filters{{}, {Bans: []api.Ban{}, Follow: []api.Set{}, Reject: []int{}}} {
			for _, w := range [][]byte{nil, {}} {
				x, e1 := Build(g, f, w)
				n, e2 := Count(g, f, w)
				list, e3 := Trees(g, f, w, 5)
				if e1 != api.OK || e2 != api.OK || e3 != api.OK || len(x.Nodes) != len(g.Rules) || n != len(g.Rules) || len(list) != len(g.Rules) || x.Root != len(g.Rules)-1 {
					t.Errorf("%+v: %v %d %v", g, x, n, list)
				}
				for _, tree := range []api.Tree{{}, {Kids: []api.Tree{}}} {
					want := api.OK
					if len(g.Rules) == 0 {
						want = api.ErrTree
					}
					if code := Ok(g, f, w, tree); code != want {
						t.Errorf("%+v: Ok %d", g, code)
					}
				}
			}
		}
	}
}
