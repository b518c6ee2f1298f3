package layout

import (
	"math"
	"reflect"
	"strings"
	"testing"

	"tracery/api"
)

func great() api.Doc {
	return cat(txt("a"), grp(in(2, lin(" "), txt("bc"), cat(hrd())), grp(txt("d"), lin("")), txt("e")), api.Doc{Kind: api.DGroup, Kids: []api.Doc{}})
}

// What is handed in stays as it was, and what is written into an answer is seen by nobody.
func TestNothingIsKept(t *testing.T) {
	for _, d := range []api.Doc{great(), with(great(), 1), cat(great(), api.Doc{Kind: api.DText, Kids: []api.Doc{txt("x")}})} {
		want := told(d)
		first, second := Leaves(d), Leaves(d)
		Right(d)
		Flat(d)
		for _, width := range []int{math.MinInt, 3, math.MaxInt} {
			Render(d, width)
			Broken(d, width)
		}
		clear(first)
		for i := range first[:cap(first)] {
			first[:cap(first)][i] = api.Doc{Kind: 9, Text: "z"}
		}
		if told(d) != want || !reflect.DeepEqual(second, slowLeaves(d)) || !reflect.DeepEqual(Leaves(d), second) {
			t.Errorf("%s changed: %v", want, second)
		}
	}
}

// Leaves are told without Kids, so that they share nothing with the document.
func TestNewMemory(t *testing.T) {
	d := cat(api.Doc{Kind: api.DText, Text: "a", Kids: []api.Doc{txt("b")}}, api.Doc{Kind: api.DHard, Kids: make([]api.Doc, 0, 9)})
	for _, leaf := range Leaves(d) {
		if cap(leaf.Kids) > 0 {
			t.Errorf("%v has Kids", leaf)
		}
	}
}

// What lies behind a list's length is neither read nor written.
func TestBehindTheLists(t *testing.T) {
	all := []api.Doc{txt("a"), lin(" "), txt("b"), hrd(), {Kind: 9}, txt("\n")}
	d := api.Doc{Kind: api.DGroup, Kids: all[:3]}
	leaf := api.Doc{Kind: api.DText, Text: "c", Kids: all[:0]}
	text, code := Render(cat(d, leaf), 4)
	flat, e := Flat(cat(d, leaf))
	if text != "a bc" || flat != "a bc" || code != api.OK || e != api.OK || !Right(leaf) || len(Leaves(d)) != 3 {
		t.Errorf("%q %d %q %d", text, code, flat, e)
	}
	if told(cat(all...)) != told(cat(txt("a"), lin(" "), txt("b"), hrd(), api.Doc{Kind: 9}, txt("\n"))) {
		t.Error("what lies behind a list changed")
	}
}

// Empty lists and nil ones are the same.
func TestEmptyLists(t *testing.T) {
	for kind := range 8 {
		for _, text := range []string{"", "a"} {
			none := api.Doc{Kind: kind, Text: text}
			empty := api.Doc{Kind: kind, Text: text, Kids: []api.Doc{}}
			for _, width := range []int{-1, 0, 1, 5} {
				a, e1 := Render(cat(txt("x"), none), width)
				b, e2 := Render(cat(txt("x"), empty), width)
				m, e3 := Broken(grp(none), width)
				n, e4 := Broken(grp(empty), width)
				if a != b || e1 != e2 || m != n || e3 != e4 {
					t.Errorf("kind %d in %d: %q %d, %q %d, %d %d, %d %d", kind, width, a, e1, b, e2, m, e3, n, e4)
				}
			}
			a, e1 := Flat(none)
			b, e2 := Flat(empty)
			if Right(none) != Right(empty) || a != b || e1 != e2 || len(Leaves(none)) != len(Leaves(empty)) {
				t.Errorf("kind %d: %q %d, %q %d", kind, a, e1, b, e2)
			}
		}
	}
}

// The same is told each time.
func TestAgain(t *testing.T) {
	d := great()
	for width := range 12 {
		first, _ := Render(d, width)
		n, _ := Broken(d, width)
		for range 5 {
			text, _ := Render(great(), width)
			if m, _ := Broken(great(), width); text != first || m != n || strings.Count(text, "\n") < 1 {
				t.Errorf("in %d: %q, %d, then %q, %d", width, first, n, text, m)
			}
		}
	}
}
