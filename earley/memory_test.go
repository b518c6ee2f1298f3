package earley

import (
	"bytes"
	"reflect"
	"slices"
	"testing"

	"tracery/api"
)

// piece is the memory of a list, up to its capacity; it holds the list, since memory that nobody
// holds is given to another list.
type piece struct {
	from, to uintptr
	held     reflect.Value
}

// pieces is the memory of all lists in a value.
func pieces(v reflect.Value) []piece {
	var list []piece
	switch v.Kind() {
	case reflect.Struct:
		for i := range v.NumField() {
			list = append(list, pieces(v.Field(i))...)
		}
	case reflect.Slice:
		if v.Cap() > 0 {
			list = append(list, piece{v.Pointer(), v.Pointer() + uintptr(v.Cap())*v.Type().Elem().Size(), v})
		}
		for i := range v.Len() {
			list = append(list, pieces(v.Index(i))...)
		}
	}
	return list
}

// No two lists of an answer share memory, and none shares any with another answer or an argument.
func TestNewMemory(t *testing.T) {
	g, w := gram(2, "A>AB", "A>", "B>b", "B>bb"), []byte("bbbbx")
	var list []piece
	list = append(pieces(reflect.ValueOf(g)), pieces(reflect.ValueOf(w))...)
	for range 2 {
		chart, _ := Chart(g, w)
		runs, _ := Spans(g, w, 0)
		list = append(list, pieces(reflect.ValueOf(chart))...)
		list = append(list, pieces(reflect.ValueOf(runs))...)
	}
	slices.SortFunc(list, func(a, b piece) int { return int(a.from) - int(b.from) })
	for i := range list[1:] {
		if list[i].to > list[i+1].from {
			t.Errorf("lists share memory: %v %v", list[i], list[i+1])
		}
	}
}

// What is written into an answer is seen by nobody, and an argument stays as it was.
func TestNothingIsKept(t *testing.T) {
	g, w := gram(2, "A>AB", "A>", "B>b", "B>bb"), []byte("bbbbx")
	before := tell(t, g, string(w))
	chart, _ := Chart(g, w)
	for _, set := range chart {
		for i := range set {
			set[i] = api.EItem{Rule: 7, Dot: 7, From: 7}
		}
		_ = append(set, api.EItem{Rule: 8})
	}
	runs, _ := Spans(g, w, 1)
	for i := range runs {
		runs[i] = api.Run{Lo: 9, Hi: 9}
	}
	if !reflect.DeepEqual(g, gram(2, "A>AB", "A>", "B>b", "B>bb")) || string(w) != "bbbbx" {
		t.Error("an argument changed")
	}
	if !tell(t, g, string(w)).same(before) {
		t.Error("an answer changed")
	}
}

// What lies behind a list's length is neither read nor written.
func TestBehindTheLists(t *testing.T) {
	more := gram(2, "A>ABb", "A>", "B>bA", "B>b", "A>b")
	before := gram(2, "A>ABb", "A>", "B>bA", "B>b", "A>b")
	cut := more
	cut.Rules = slices.Clone(more.Rules)[:4]
	cut.Rules[0].Rhs = more.Rules[0].Rhs[:2]
	cut.Rules[2].Rhs = more.Rules[2].Rhs[:1]
	w := []byte("bbbb")
	want := gram(2, "A>AB", "A>", "B>b", "B>b")
	for n := range 4 {
		chart, _ := Chart(cut, w[:n])
		plain, _ := Chart(want, bytes.Clone(w[:n]))
		next, _ := Next(cut, w[:n])
		plainNext, _ := Next(want, bytes.Clone(w[:n]))
		if chartText(chart) != chartText(plain) || next != plainNext || !tell(t, cut, string(w[:n])).same(tell(t, want, string(w[:n]))) {
			t.Errorf("%d bytes: %s", n, chartText(chart))
		}
	}
	if !reflect.DeepEqual(more, before) || string(w) != "bbbb" {
		t.Error("what lies behind a list changed")
	}
}
