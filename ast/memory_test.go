package ast

import (
	"reflect"
	"slices"
	"testing"

	"tracery/api"
	"tracery/charset"
	"tracery/defs"
	"tracery/terms"
	"tracery/trees"
)

// piece is the memory of a list, up to its capacity; it holds the list, since memory that nobody
// holds is given to another list.
type piece struct {
	from, to uintptr
	held     reflect.Value
}

// pieces is the memory of all lists in a value.
func pieces(v reflect.Value) []piece {
	var list []piece
	switch v.Kind() {
	case reflect.Struct:
		for i := range v.NumField() {
			list = append(list, pieces(v.Field(i))...)
		}
	case reflect.Slice:
		if v.Cap() > 0 {
			list = append(list, piece{v.Pointer(), v.Pointer() + uintptr(v.Cap())*v.Type().Elem().Size(), v})
		}
		for i := range v.Len() {
			list = append(list, pieces(v.Index(i))...)
		}
	}
	return list
}

// spoil changes all that can be changed in a value.
func spoil(v reflect.Value) {
	switch v.Kind() {
	case reflect.String:
		v.SetString(v.String() + "Z")
	case reflect.Int:
		v.SetInt(v.Int() + 1)
	case reflect.Uint8, reflect.Uint64:
		v.SetUint(v.Uint() ^ 255)
	case reflect.Bool:
		v.SetBool(!v.Bool())
	case reflect.Struct:
		for i := range v.NumField() {
			spoil(v.Field(i))
		}
	case reflect.Slice, reflect.Array:
		for i := range v.Len() {
			spoil(v.Index(i))
		}
	}
}

// greatTerm has each kind of term, and the same lexeme several times.
const greatTerm = `All(?"12",[Pair(Add(Num("12"),Opt(-,?"12")),"12"),Pair(Plus([Nil,Star([])]),"3")],-,["12","12","4"],Pair(Ids(["x","x"]),"12"))`

// No two lists of an answer share memory, and none shares any with another answer or an argument.
func TestNewMemory(t *testing.T) {
	for _, text := range []string{most, gaps} {
		d, x := must(t, text), term(t, greatTerm)
		tree := treeOf(t, made(t, text), "E", "a12#(1)+o12=12.#p(nil);;s..=3")
		list := slices.Concat(pieces(reflect.ValueOf(d)), pieces(reflect.ValueOf(x)), pieces(reflect.ValueOf(tree)))
		var kept []any
		for range 2 {
			plain, e1 := Explode(d, "E", x)
			back, e2 := Implode(d, plain)
			other, e3 := Implode(d, tree)
			if e1 != api.OK || e2 != api.OK || e3 != api.OK {
				t.Fatal(e1, e2, e3)
			}
			kept = append(kept, plain, back, other)
		}
		for _, answer := range kept {
			list = append(list, pieces(reflect.ValueOf(answer))...)
		}
		slices.SortFunc(list, func(a, b piece) int { return int(a.from) - int(b.from) })
		for i := range list[1:] {
			if list[i].to > list[i+1].from {
				t.Errorf("lists share memory: %v %v", list[i], list[i+1])
			}
		}
	}
}

// What is written into an answer is seen by nobody, and what is handed in stays as it was.
func TestNothingIsKept(t *testing.T) {
	const text = gaps + ` prio left Add > Neg; follow N [0-9]; box Neg = "-" 1; lex K = "7"; reject N K;`
	d, x := must(t, text), term(t, greatTerm)
	first, _ := Explode(d, "E", x)
	second, _ := Explode(d, "E", x)
	back, _ := Implode(d, second)
	again, _ := Implode(d, second)
	Sorted(d, "E", x)
	Sorted(d, "F", x)
	spoil(reflect.ValueOf(&first).Elem())
	spoil(reflect.ValueOf(&back).Elem())
	third, _ := Explode(must(t, text), "E", term(t, greatTerm))
	if !defs.Same(d, must(t, text)) || !terms.Same(x, term(t, greatTerm)) || !trees.Same(second, third) || !terms.Same(again, x) {
		t.Error("an argument, or another answer, changed")
	}
	spoil(reflect.ValueOf(&d).Elem())
	spoil(reflect.ValueOf(&x).Elem())
	if last, _ := Explode(must(t, text), "E", term(t, greatTerm)); !trees.Same(second, third) || !trees.Same(last, third) || !terms.Same(again, term(t, greatTerm)) {
		t.Error("an answer changed")
	}
}

// What lies behind a list's length is neither read nor written.
func TestBehindTheLists(t *testing.T) {
	whole := func() api.Def {
		return must(t, small+` cf F.B = "b"; prio left A; prio left X; follow F [a]; reject Y Z; box B = "c";`)
	}
	more := whole()
	d := more
	d.Prods, d.Chains, d.Follows, d.Rejects, d.Boxes = d.Prods[:3], d.Chains[:1], nil, d.Rejects[:0], d.Boxes[:0]
	x := term(t, `A(N("1"),N("2"))`)
	cut := api.Term{Kind: api.TApp, Cons: "A", Text: []byte("a")[:0], Kids: append(slices.Clone(x.Kids), x)[:2]}
	cut.Kids[0].Kids = []api.Term{{Kind: api.TLex, Text: []byte("1+2")[:1], Kids: []api.Term{x}[:0]}, x}[:1]
	tree, code := Explode(d, "E", cut)
	want, _ := Explode(must(t, small), "E", x)
	if code != api.OK || Sorted(d, "E", cut) != api.OK || !trees.Same(tree, want) {
		t.Errorf("%v %d", tree, code)
	}
	tree.Kids = append(tree.Kids, tree)[:3]
	tree.Kids[1].Kids = []api.Tree{want}[:0]
	if back, code := Implode(d, tree); code != api.OK || !terms.Same(back, x) {
		t.Errorf("%s %d", shown(back), code)
	}
	if !defs.Same(more, whole()) || len(cut.Kids[:3][2].Kids) != 2 || !trees.Same(tree.Kids[1].Kids[:1][0], want) {
		t.Error("what lies behind a list changed")
	}
	if Sorted(d, "F", x) != api.ErrArg {
		t.Error("what lies behind the productions is read")
	}
}

// Empty lists and nil ones are the same.
func TestEmptyLists(t *testing.T) {
	d := must(t, `start E; cf E.A = "a" B* B?; lex B = [b];`)
	d.Chains, d.Follows, d.Rejects, d.Boxes = [][]api.Group{}, []api.Follow{}, []api.Reject{}, []api.Box{}
	none := must(t, `start E; cf E.A = "a" B* B?; lex B = [b];`)
	none.Chains, none.Follows, none.Rejects, none.Boxes = nil, nil, nil, nil
	empty := api.Term{Kind: api.TApp, Cons: "A", Text: []byte{}, Kids: []api.Term{{Kind: api.TList, Text: []byte{}, Kids: []api.Term{}}, {Kind: api.TNone, Text: []byte{}, Kids: []api.Term{}}}}
	nils := api.Term{Kind: api.TApp, Cons: "A", Kids: []api.Term{{Kind: api.TList}, {Kind: api.TNone}}}
	for _, d := range []api.Def{d, none} {
		for _, x := range []api.Term{empty, nils} {
			tree, code := Explode(d, "E", x)
			if code != api.OK || Sorted(d, "E", x) != api.OK || !trees.Same(tree, api.Tree{Kids: []api.Tree{{Rule: -1, Byte: 'a'}}}) {
				t.Errorf("%v %d", tree, code)
			}
			tree.Kids[0].Kids = []api.Tree{}
			if back, code := Implode(d, tree); code != api.OK || !terms.Same(back, nils) {
				t.Errorf("%s %d", shown(back), code)
			}
		}
	}
	if charset.Size(d.Prods[1].Syms[0].Set) != 1 {
		t.Error("the definition changed")
	}
}
