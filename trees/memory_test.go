package trees

import (
	"reflect"
	"slices"
	"testing"

	"tracery/api"
)

// piece is the memory of a list, up to its capacity; it holds the list, since memory that nobody
// holds is given to another list.
type piece struct {
	from, to uintptr
	held     reflect.Value
}

// pieces is the memory of all lists in a value.
func pieces(v reflect.Value) []piece {
	var list []piece
	switch v.Kind() {
	case reflect.Struct:
		for i := range v.NumField() {
			list = append(list, pieces(v.Field(i))...)
		}
	case reflect.Slice:
		if v.Cap() > 0 {
			list = append(list, piece{v.Pointer(), v.Pointer() + uintptr(v.Cap())*v.Type().Elem().Size(), v})
		}
		for i := range v.Len() {
			list = append(list, pieces(v.Index(i))...)
		}
	}
	return list
}

func great() api.Tree {
	return node(0, leaf('a'), node(1, leaf('b'), node(2, leaf('c')), odd(-1, 'd', leaf('e'), node(3))), odd(4, 5, node(6)))
}

// No two lists of an answer share memory, and none shares any with another answer or an argument.
func TestNewMemory(t *testing.T) {
	tree, put, path := great(), node(7, leaf('x'), node(8, leaf('y'))), []int{1, 1}
	list := slices.Concat(pieces(reflect.ValueOf(tree)), pieces(reflect.ValueOf(put)), pieces(reflect.ValueOf(path)))
	for range 2 {
		for _, path := range [][]int{nil, path, {0}, {1}, {1, 2}} {
			at, _ := At(tree, path)
			with, _ := Put(tree, path, put)
			list = slices.Concat(list, pieces(reflect.ValueOf(at)), pieces(reflect.ValueOf(with)))
		}
		read, fault := Parse("0(1(x61 x62 2(x63)) 3(4(x64)))")
		if fault != (api.Fault{}) {
			t.Fatal(fault)
		}
		list = slices.Concat(list, pieces(reflect.ValueOf(read)), pieces(reflect.ValueOf(Yield(tree))), pieces(reflect.ValueOf(Spans(tree))))
	}
	slices.SortFunc(list, func(a, b piece) int { return int(a.from) - int(b.from) })
	for i := range list[1:] {
		if list[i].to > list[i+1].from {
			t.Errorf("lists share memory: %v %v", list[i], list[i+1])
		}
	}
}

// A tree whose parts share memory is told in memory that is not shared.
func TestSharedParts(t *testing.T) {
	same := []api.Tree{leaf('a'), node(3, leaf('b'))}
	tree := node(0, node(1, same...), node(2, same...))
	tree.Kids[0].Kids, tree.Kids[1].Kids = same, same
	with, code := Put(tree, []int{0, 1}, leaf('x'))
	if want := "0:0{1:0{-1:97{}-1:120{}}2:0{-1:97{}3:0{-1:98{}}}}"; code != api.OK || all(with) != want {
		t.Fatalf("%s %d", all(with), code)
	}
	copied, _ := At(tree, nil)
	copied.Kids[0].Kids[1].Kids[0].Byte = 'z'
	if want := "0:0{1:0{-1:97{}3:0{-1:98{}}}2:0{-1:97{}3:0{-1:98{}}}}"; all(tree) != want || all(copied.Kids[1]) != "2:0{-1:97{}3:0{-1:98{}}}" {
		t.Errorf("%s, %s", all(tree), all(copied))
	}
}

// spoil changes all that can be changed in a tree.
func spoil(t *api.Tree) {
	t.Rule += 3
	t.Byte ^= 255
	for i := range t.Kids {
		spoil(&t.Kids[i])
	}
}

// What is written into an answer is seen by nobody, and an argument stays as it was.
func TestNothingIsKept(t *testing.T) {
	tree, put, g, path := great(), node(7, leaf('x')), sum(), []int{1, 1, 0}
	before := tell(tree)
	at, _ := At(tree, path[:2])
	with, _ := Put(tree, path, put)
	read, _ := Parse("0(1(x61) x62)")
	Right(g, 0, tree)
	Print(tree)
	Same(tree, put)
	for _, answer := range []*api.Tree{&at, &with, &read} {
		spoil(answer)
	}
	clear(Yield(tree))
	clear(Spans(tree))
	again, _ := Parse("0(1(x61) x62)")
	if !reflect.DeepEqual(tree, great()) || !reflect.DeepEqual(put, node(7, leaf('x'))) || !reflect.DeepEqual(g, sum()) || !slices.Equal(path, []int{1, 1, 0}) {
		t.Error("an argument changed")
	}
	if tell(tree) != before || all(again) != "0:0{1:0{-1:97{}}-1:98{}}" {
		t.Error("an answer changed")
	}
}

// What lies behind a list's length is neither read nor written.
func TestBehindTheLists(t *testing.T) {
	more := node(0, leaf('a'), node(1, leaf('b'), leaf('c')), leaf('d'))
	cut := api.Tree{Kids: slices.Clone(more.Kids)[:2]}
	cut.Kids[1].Kids = more.Kids[1].Kids[:1]
	want := node(0, leaf('a'), node(1, leaf('b')))
	if tell(cut) != tell(want) || !Same(cut, want) {
		t.Errorf("%+v", tell(cut))
	}
	text, _ := Print(cut)
	at, _ := At(cut, nil)
	with, code := Put(cut, []int{1, 0}, leaf('z'))
	if text != "0(x61 1(x62))" || !Same(at, want) || code != api.OK || all(with) != "0:0{-1:97{}1:0{-1:122{}}}" {
		t.Errorf("%q %s %s", text, all(at), all(with))
	}
	if _, code := Put(cut, []int{1, 1}, leaf('z')); code != api.ErrNone {
		t.Error(code)
	}
	if !reflect.DeepEqual(more, node(0, leaf('a'), node(1, leaf('b'), leaf('c')), leaf('d'))) || cut.Kids[:3][2].Byte != 'd' {
		t.Error("what lies behind a list changed")
	}
	path := []int{1, 0, 7}
	if there, code := At(cut, path[:2]); code != api.OK || !Same(there, leaf('b')) {
		t.Errorf("%s %d", all(there), code)
	}
}
