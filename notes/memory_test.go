package notes

import (
	"reflect"
	"slices"
	"testing"

	"tracery/api"
	"tracery/defs"
	"tracery/trees"
)

// piece is the memory of a list, up to its capacity; it holds the list, since memory that nobody
// holds is given to another list.
type piece struct {
	from, to uintptr
	held     reflect.Value
}

// pieces is the memory of all lists in a value.
func pieces(v reflect.Value) []piece {
	var list []piece
	switch v.Kind() {
	case reflect.Struct:
		for i := range v.NumField() {
			list = append(list, pieces(v.Field(i))...)
		}
	case reflect.Slice:
		if v.Cap() > 0 {
			list = append(list, piece{v.Pointer(), v.Pointer() + uintptr(v.Cap())*v.Type().Elem().Size(), v})
		}
		for i := range v.Len() {
			list = append(list, pieces(v.Index(i))...)
		}
	}
	return list
}

// spoil changes all that can be changed in a value.
func spoil(v reflect.Value) {
	switch v.Kind() {
	case reflect.String:
		v.SetString(v.String() + "Z")
	case reflect.Int:
		v.SetInt(v.Int() + 1)
	case reflect.Uint8, reflect.Uint64:
		v.SetUint(v.Uint() ^ 255)
	case reflect.Bool:
		v.SetBool(!v.Bool())
	case reflect.Struct:
		for i := range v.NumField() {
			spoil(v.Field(i))
		}
	case reflect.Slice, reflect.Array:
		for i := range v.Len() {
			spoil(v.Index(i))
		}
	}
}

// greatText has gaps of each kind, notes among them, and the same ones several times.
const greatText = " s1 ;#a\n#a\n(2{b}+[]3);o1 {b},2;p1 2 ' '#a\n.. "

// greatGaps is other gaps for a tree of it: some are the same, some empty.
func greatGaps(n int) [][]byte {
	return slices.Repeat(texts("#a\n{b}", "", " ", "#a\n{b}", "[[ ]]"), n)[:n]
}

// No two lists of an answer share memory, and none shares any with another answer or an argument.
func TestNewMemory(t *testing.T) {
	d := must(t, most)
	tree := treeOf(t, made(t, d), "top", greatText)
	first, _ := Gaps(d, tree)
	gaps := greatGaps(len(first))
	for i, gap := range gaps { // each in memory of its own
		gaps[i] = slices.Clone(gap)
	}
	var kept []any
	for range 2 {
		own, e1 := Gaps(d, tree)
		between, e2 := Pieces(d, tree)
		notes, e3 := Notes(d, tree)
		full, e4 := Fill(d, tree, gaps)
		back, e5 := Fill(d, tree, own)
		if e1 != api.OK || e2 != api.OK || e3 != api.OK || e4 != api.OK || e5 != api.OK || len(notes) < 5 {
			t.Fatal(e1, e2, e3, e4, e5, len(notes))
		}
		kept = append(kept, own, between, notes, full, back)
	}
	list := slices.Concat(pieces(reflect.ValueOf(d)), pieces(reflect.ValueOf(tree)), pieces(reflect.ValueOf(gaps)))
	for _, answer := range kept {
		list = append(list, pieces(reflect.ValueOf(answer))...)
	}
	slices.SortFunc(list, func(a, b piece) int { return int(a.from) - int(b.from) })
	for i := range list[1:] {
		if list[i].to > list[i+1].from {
			t.Errorf("lists share memory: %v %v", list[i], list[i+1])
		}
	}
}

// What is written into an answer is seen by nobody, and what is handed in stays as it was.
func TestNothingIsKept(t *testing.T) {
	const text = most + ` lex K = "7"; reject N K; box Add = group(1 _ "+" _ 2);`
	d := must(t, text)
	tree := treeOf(t, made(t, d), "top", greatText)
	own, _ := Gaps(d, tree)
	gaps := greatGaps(len(own))
	same := func() bool {
		return defs.Same(d, must(t, text)) && trees.Same(tree, treeOf(t, made(t, must(t, text)), "top", greatText)) && reflect.DeepEqual(gaps, greatGaps(len(own)))
	}
	between, _ := Pieces(d, tree)
	notes, _ := Notes(d, tree)
	full, code := Fill(d, tree, gaps)
	Fill(d, tree, gaps[1:])
	Fill(d, tree, append(slices.Clone(gaps[1:]), []byte("?")))
	Gaps(d, api.Tree{Rule: -1, Kids: []api.Tree{tree}})
	if code != api.OK || !same() {
		t.Error("an argument changed", code)
	}
	wantGaps, wantPieces, wantNotes := shown(own), shown(between), told(notes)
	wantTree, _ := trees.At(full, nil)
	for _, answer := range []reflect.Value{reflect.ValueOf(&own), reflect.ValueOf(&between), reflect.ValueOf(&notes), reflect.ValueOf(&full)} {
		spoil(answer.Elem())
	}
	if !same() {
		t.Error("an argument changed with an answer")
	}
	own, _ = Gaps(d, tree)
	between, _ = Pieces(d, tree)
	notes, _ = Notes(d, tree)
	full, _ = Fill(d, tree, gaps)
	for _, argument := range []reflect.Value{reflect.ValueOf(&d), reflect.ValueOf(&tree), reflect.ValueOf(&gaps)} {
		spoil(argument.Elem())
	}
	if shown(own) != wantGaps || shown(between) != wantPieces || told(notes) != wantNotes || !trees.Same(full, wantTree) {
		t.Error("an answer changed")
	}
}

// What lies behind a list's length is neither read nor written.
func TestBehindTheLists(t *testing.T) {
	whole := func() api.Def {
		return must(t, small+` cf E.X = Y; prio left A; prio left X; follow F [a]; reject Y Z; box B = "c";`)
	}
	more := whole()
	d := more
	d.Prods, d.Chains, d.Follows, d.Rejects, d.Boxes = d.Prods[:4], d.Chains[:1], nil, d.Rejects[:0], d.Boxes[:0]
	tree := treeOf(t, made(t, must(t, small)), "E", "1 +2")
	want, _ := trees.At(tree, nil)
	tree.Kids = append(tree.Kids, tree)[:5]
	tree.Kids[2].Kids = []api.Tree{want}[:0]
	all := texts("#a\nb", "#c\nd", "x")
	gaps := [][]byte{all[0][:3], all[1][:3], all[2]}[:2]
	have, e1 := Gaps(d, tree)
	between, e2 := Pieces(d, tree)
	notes, e3 := Notes(d, tree)
	full, e4 := Fill(d, tree, gaps)
	if e1 != api.OK || e2 != api.OK || e3 != api.OK || e4 != api.OK || shown(have) != " |" || shown(between) != "1|+|2" || len(notes) != 0 || string(trees.Yield(full)) != "1#a\n+#c\n2" {
		t.Errorf("%q %d, %q %d, %q %d, %q %d", have, e1, between, e2, told(notes), e3, trees.Yield(full), e4)
	}
	for i := range have {
		have[i] = append(have[i], "zz"...)
	}
	for i := range between {
		between[i] = append(between[i], "zz"...)
	}
	if shown(have) != " zz|zz" || shown(between) != "1zz|+zz|2zz" {
		t.Errorf("%q %q", have, between)
	}
	if !defs.Same(more, whole()) || !trees.Same(tree.Kids[2].Kids[:1][0], want) || shown(all) != "#a\nb|#c\nd|x" || string(gaps[:3][2]) != "x" {
		t.Error("what lies behind a list changed")
	}
}

// Empty lists and nil ones are the same.
func TestEmptyLists(t *testing.T) {
	d, none := must(t, small), must(t, small)
	d.Chains, d.Follows, d.Rejects, d.Boxes = [][]api.Group{}, []api.Follow{}, []api.Reject{}, []api.Box{}
	none.Chains, none.Follows, none.Rejects, none.Boxes = nil, nil, nil, nil
	for _, d := range []api.Def{d, none} {
		for _, kids := range [][]api.Tree{{}, nil} {
			tree := treeOf(t, made(t, d), "E", "1+2")
			tree.Kids[1].Kids, tree.Kids[2].Kids = kids, kids
			for _, gap := range [][]byte{{}, nil} {
				full, code := Fill(d, tree, [][]byte{gap, gap})
				if code != api.OK || string(trees.Yield(full)) != "1+2" {
					t.Errorf("%q %d", trees.Yield(full), code)
				}
			}
			one := treeOf(t, made(t, d), "N", "1")
			one.Kids[0].Kids = kids
			for _, gaps := range [][][]byte{{}, nil} {
				if full, code := Fill(d, one, gaps); code != api.OK || string(trees.Yield(full)) != "1" {
					t.Errorf("%q %d", trees.Yield(full), code)
				}
			}
		}
	}
}
