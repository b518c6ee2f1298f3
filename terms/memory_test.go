package terms

import (
	"reflect"
	"slices"
	"testing"

	"tracery/api"
)

// piece is the memory of a list, up to its capacity; it holds the list, since memory that nobody
// holds is given to another list.
type piece struct {
	from, to uintptr
	held     reflect.Value
}

// pieces is the memory of all lists in a value.
func pieces(x any) []piece {
	var list []piece
	var look func(v reflect.Value)
	look = func(v reflect.Value) {
		switch v.Kind() {
		case reflect.Struct:
			for i := range v.NumField() {
				look(v.Field(i))
			}
		case reflect.Slice:
			if v.Cap() > 0 {
				list = append(list, piece{v.Pointer(), v.Pointer() + uintptr(v.Cap())*v.Type().Elem().Size(), v})
			}
			for i := range v.Len() {
				look(v.Index(i))
			}
		}
	}
	look(reflect.ValueOf(x))
	return list
}

func great() api.Term {
	return app("A", lex("ab"), list(lex("c"), some(app("B", lex("d"), none())), odd(api.TLex, "", "e", lex("f"))), odd(9, "x", "g", none()))
}

// No two lists of an answer share memory, and none shares any with another answer or an argument.
func TestNewMemory(t *testing.T) {
	term, put, path := great(), list(lex("x"), app("C", lex("y"))), []int{1, 1}
	mine := slices.Concat(pieces(term), pieces(put), pieces(path))
	var kept []any
	for range 2 {
		for _, path := range [][]int{nil, path, {0}, {1}, {1, 2}, {1, 1, 0, 0}} {
			at, e1 := At(term, path)
			with, e2 := Put(term, path, put)
			if e1 != api.OK || e2 != api.OK {
				t.Fatal(path, e1, e2)
			}
			kept = append(kept, at, with)
		}
		for part := range Walk(term) {
			kept = append(kept, part)
		}
		read, fault := Parse(`A("a",[B("b"),?"c","d"],C("a"))`)
		if fault != (api.Fault{}) {
			t.Fatal(fault)
		}
		kept = append(kept, read, Lexemes(term))
	}
	for _, answer := range kept {
		mine = append(mine, pieces(answer)...)
	}
	slices.SortFunc(mine, func(a, b piece) int { return int(a.from) - int(b.from) })
	for i := range mine[1:] {
		if mine[i].to > mine[i+1].from {
			t.Errorf("lists share memory: %v %v", mine[i], mine[i+1])
		}
	}
}

// A term whose parts share memory is told in memory that is not shared.
func TestSharedParts(t *testing.T) {
	text := []byte("a")
	same := []api.Term{{Kind: api.TLex, Text: text}, {Kind: api.TLex, Text: text}}
	term := app("A", api.Term{Kind: api.TList, Kids: same}, api.Term{Kind: api.TList, Kids: same})
	with, code := Put(term, []int{0, 1}, none())
	if want := all(app("A", list(lex("a"), none()), list(lex("a"), lex("a")))); code != api.OK || all(with) != want {
		t.Fatalf("%s %d", all(with), code)
	}
	copied, _ := At(term, nil)
	copied.Kids[0].Kids[1].Text[0] = 'z'
	if want := all(app("A", list(lex("a"), lex("z")), list(lex("a"), lex("a")))); all(copied) != want || string(text) != "a" {
		t.Errorf("%s", all(copied))
	}
	texts := Lexemes(term)
	texts[0][0] = 'y'
	if string(texts[1]) != "a" || string(text) != "a" {
		t.Errorf("%q", texts)
	}
}

// spoil changes all that can be changed in a term.
func spoil(t *api.Term) {
	t.Kind += 3
	t.Cons += "Z"
	for i := range t.Text {
		t.Text[i] ^= 255
	}
	for i := range t.Kids {
		spoil(&t.Kids[i])
	}
}

// What is written into an answer is seen by nobody, and an argument stays as it was.
func TestNothingIsKept(t *testing.T) {
	term, put, path := great(), list(lex("x")), []int{1, 1, 0}
	at, _ := At(term, path[:2])
	with, _ := Put(term, path, put)
	const text = `A("ab",[B("c"),?"d"])`
	read, _ := Parse(text)
	for _, answer := range []*api.Term{&at, &with, &read} {
		spoil(answer)
	}
	for _, one := range Lexemes(term) {
		clear(one)
	}
	Right(term)
	Size(term)
	Same(term, put)
	Print(term)
	Print(put)
	again, fault := Parse(text)
	if !reflect.DeepEqual(term, great()) || !reflect.DeepEqual(put, list(lex("x"))) || !slices.Equal(path, []int{1, 1, 0}) {
		t.Error("an argument changed")
	}
	if fault != (api.Fault{}) || all(again) != all(app("A", lex("ab"), list(app("B", lex("c")), some(lex("d"))))) {
		t.Errorf("%s %v", all(again), fault)
	}
}

// What is written into what a walk told, or into the term, changes nothing of the walk.
func TestWalkKeepsNothing(t *testing.T) {
	term := great()
	want := slowWalk(term)
	count := 0
	for part := range Walk(term) {
		if all(part) != want[count] {
			t.Fatalf("%s, not %s", all(part), want[count])
		}
		count++
		spoil(&part)
	}
	if count != len(want) || !reflect.DeepEqual(term, great()) {
		t.Errorf("%d terms, %s", count, all(term))
	}
	// of the term as it was when it was handed in, each time
	walk := Walk(term)
	spoil(&term)
	for range 2 {
		count := 0
		for part := range walk {
			if all(part) != want[count] {
				t.Fatalf("%s, not %s", all(part), want[count])
			}
			count++
			spoil(&part)
		}
		if count != len(want) {
			t.Errorf("%d terms", count)
		}
	}
}

// What lies behind a list's length is neither read nor written.
func TestBehindTheLists(t *testing.T) {
	more := func() api.Term { return app("A", lex("abc"), list(lex("d"), lex("e")), none()) }
	whole := more()
	cut := api.Term{Kind: api.TApp, Cons: "A", Kids: slices.Clone(whole.Kids)[:2]}
	cut.Kids[0].Text = whole.Kids[0].Text[:1]
	cut.Kids[1].Kids = whole.Kids[1].Kids[:1]
	want := app("A", lex("a"), list(lex("d")))
	size, deep := Size(cut)
	text, code := Print(cut)
	if size != 4 || deep != 3 || text != `A("a",["d"])` || code != api.OK || !Same(cut, want) || !Same(want, cut) || len(walked(cut, 99)) != 4 || len(Lexemes(cut)) != 2 || len(Lexemes(cut)[0]) != 1 {
		t.Errorf("%d %d %q %d", size, deep, text, code)
	}
	at, _ := At(cut, nil)
	with, e := Put(cut, []int{1, 0}, none())
	if !Same(at, want) || e != api.OK || all(with) != all(app("A", lex("a"), list(none()))) {
		t.Errorf("%s %s", all(at), all(with))
	}
	if _, code := Put(cut, []int{1, 1}, none()); code != api.ErrNone {
		t.Error(code)
	}
	if _, code := At(cut, []int{2}); code != api.ErrNone {
		t.Error(code)
	}
	if !reflect.DeepEqual(whole, more()) || cut.Kids[:3][2].Kind != api.TNone {
		t.Error("what lies behind a list changed")
	}
	path := []int{1, 0, 7}
	if there, code := At(cut, path[:2]); code != api.OK || !Same(there, lex("d")) {
		t.Errorf("%s %d", all(there), code)
	}
	empty := api.Term{Kind: api.TLex, Text: []byte("abc")[:0], Kids: []api.Term{none()}[:0]}
	if text, code := Print(empty); text != `""` || code != api.OK || !Same(empty, lex("")) {
		t.Errorf("%q %d", text, code)
	}
	at, _ = At(list(empty), nil)
	with, _ = Put(list(none()), []int{0}, empty)
	for _, told := range []api.Term{at.Kids[0], with.Kids[0]} {
		if cap(told.Text) > 0 || cap(told.Kids) > 0 {
			t.Error("what lies behind a list is handed out")
		}
	}
	for told := range Walk(empty) {
		if cap(told.Text) > 0 || cap(told.Kids) > 0 {
			t.Error("what lies behind a list is handed out")
		}
	}
	if cap(Lexemes(empty)[0]) > 0 {
		t.Error("what lies behind a list is handed out")
	}
}
