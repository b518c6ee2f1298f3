package box

import (
	"reflect"
	"slices"
	"testing"

	"tracery/api"
	"tracery/defs"
	"tracery/kin"
	"tracery/terms"
	"tracery/trees"
)

// piece is the memory of a list, up to its capacity; it holds the list, since memory that nobody
// holds is given to another list.
type piece struct {
	from, to uintptr
	held     reflect.Value
}

// pieces is the memory of all lists in a value.
func pieces(v reflect.Value) []piece {
	var list []piece
	switch v.Kind() {
	case reflect.Struct:
		for i := range v.NumField() {
			list = append(list, pieces(v.Field(i))...)
		}
	case reflect.Slice:
		if v.Cap() > 0 {
			list = append(list, piece{v.Pointer(), v.Pointer() + uintptr(v.Cap())*v.Type().Elem().Size(), v})
		}
		for i := range v.Len() {
			list = append(list, pieces(v.Index(i))...)
		}
	}
	return list
}

// spoil changes all that can be changed in a value.
func spoil(v reflect.Value) {
	switch v.Kind() {
	case reflect.String:
		v.SetString(v.String() + "Z")
	case reflect.Int:
		v.SetInt(v.Int() + 1)
	case reflect.Uint8, reflect.Uint64:
		v.SetUint(v.Uint() ^ 255)
	case reflect.Bool:
		v.SetBool(!v.Bool())
	case reflect.Struct:
		for i := range v.NumField() {
			spoil(v.Field(i))
		}
	case reflect.Slice, reflect.Array:
		for i := range v.Len() {
			spoil(v.Index(i))
		}
	}
}

const (
	// greatDef has all that a definition may have.
	greatDef = most + boxes + `layout W; follow N [0-9]; lex K = "7"; reject N K;`
	// greatTerm has each kind of hole, and brackets.
	greatTerm = `Add(Star([Opts(?1,-),Neg(Add(2,3))]),Add(Of(In(Nil)),Opt(?Pluses(["1","2"]),?"5")))`
	// greatText is such a term's.
	greatText = "s1oo ; ~(2+3).+((finilnn)+ oq1 2.,5)"
)

// No two lists of an answer share memory, and none shares any with another answer or an argument.
func TestNewMemory(t *testing.T) {
	for _, def := range []string{greatDef, most + "layout W;", most} {
		d := must(t, def)
		text := greatText
		if d.Layout == "" {
			text = "s1oo;~(2+3).+((finilnn)+oq12.,5)"
		}
		tree := treeOf(t, made(t, d), "top", text)
		list := slices.Concat(pieces(reflect.ValueOf(d)), pieces(reflect.ValueOf(tree)))
		for range 2 {
			doc, code := Make(d, tree)
			if size, _ := kin.Size(doc, kin.OfDoc); code != api.OK || size < 30 {
				t.Fatal(code, size)
			}
			list = append(list, pieces(reflect.ValueOf(doc))...)
		}
		slices.SortFunc(list, func(a, b piece) int { return int(a.from) - int(b.from) })
		for i := range list[1:] {
			if list[i].to > list[i+1].from {
				t.Errorf("lists share memory: %v %v", list[i], list[i+1])
			}
		}
	}
}

// What is written into an answer is seen by nobody, and what is handed in stays as it was.
func TestNothingIsKept(t *testing.T) {
	d, x := must(t, greatDef), digits(t, greatTerm)
	tree := treeOf(t, made(t, d), "top", greatText)
	same := func() bool {
		return defs.Same(d, must(t, greatDef)) && terms.Same(x, digits(t, greatTerm)) && trees.Same(tree, treeOf(t, made(t, must(t, greatDef)), "top", greatText))
	}
	doc, e1 := Make(d, tree)
	text, e2 := Print(d, x, 20)
	Make(d, api.Tree{Rule: -1, Kids: []api.Tree{tree}})
	Print(d, api.Term{Kind: api.TSome, Kids: []api.Term{x}}, 20)
	if e1 != api.OK || e2 != api.OK || !same() {
		t.Error("an argument changed", e1, e2)
	}
	first := told(doc)
	spoil(reflect.ValueOf(&doc).Elem())
	if !same() {
		t.Error("an argument changed with an answer")
	}
	doc, _ = Make(d, tree)
	again, _ := Print(d, x, 20)
	for _, argument := range []reflect.Value{reflect.ValueOf(&d), reflect.ValueOf(&x), reflect.ValueOf(&tree)} {
		spoil(argument.Elem())
	}
	if told(doc) != first || again != text {
		t.Error("an answer changed")
	}
}

// What lies behind a list's length is neither read nor written.
func TestBehindTheLists(t *testing.T) {
	whole := func() api.Def {
		return must(t, `start E; layout W; cf E.A = E "+" E; cf E.N = N; cf E = "(" E ")" bracket; lex N = [a-z]; lex W = [\s\n]; cf E = "[" E "]" bracket; prio left A; prio right A N; follow X [a]; reject Y Z; box A = group(1 _ "+" / 2) "q"; box B = "c";`)
	}
	more := whole()
	d := more
	d.Prods, d.Chains, d.Follows, d.Rejects, d.Boxes = d.Prods[:5], d.Chains[:1], nil, d.Rejects[:0], slices.Clone(d.Boxes)[:1]
	d.Boxes[0].Items = d.Boxes[0].Items[:1]
	x := term(t, `A(A(N("a"),N("b")),A(N("c"),N("d")))`)
	cut := api.Term{Kind: api.TApp, Cons: "A", Text: []byte("a")[:0], Kids: append(slices.Clone(x.Kids), x)[:2]}
	if text, code := Print(d, cut, 99); code != api.OK || text != "a +b +(c +d)" {
		t.Errorf("%q %d", text, code)
	}
	tree := treeOf(t, made(t, d), "E", "a+b")
	want, _ := trees.At(tree, nil)
	tree.Kids = append(tree.Kids, tree)[:5]
	tree.Kids[2].Kids = []api.Tree{want}[:0]
	if doc, code := Make(d, tree); code != api.OK || told(doc) != `C(G(G("a") _ "+" / G("b")))` {
		t.Errorf("%s %d", told(doc), code)
	}
	if !defs.Same(more, whole()) || len(cut.Kids[:3][2].Kids) != 2 || !trees.Same(tree.Kids[2].Kids[:1][0], want) {
		t.Error("what lies behind a list changed")
	}
}

// Empty lists and nil ones are the same.
func TestEmptyLists(t *testing.T) {
	const text = `start E; layout W; cf E.A = "a" B* E?; cf E = "(" E ")" bracket; lex B = [b]; lex W = [\s\n]; box A = group() "a" nest 2() 1 2;`
	full, none := must(t, text), must(t, text)
	full.Chains, full.Follows, full.Rejects = [][]api.Group{}, []api.Follow{}, []api.Reject{}
	full.Boxes[0].Items[0].Items, full.Boxes[0].Items[2].Items, full.Boxes[0].Items[3].Items = []api.Item{}, []api.Item{}, []api.Item{}
	none.Chains, none.Follows, none.Rejects = nil, nil, nil
	none.Boxes[0].Items[0].Items, none.Boxes[0].Items[2].Items, none.Boxes[0].Items[3].Items = nil, nil, nil
	empty := api.Term{Kind: api.TApp, Cons: "A", Text: []byte{}, Kids: []api.Term{{Kind: api.TList, Text: []byte{}, Kids: []api.Term{}}, {Kind: api.TNone, Text: []byte{}, Kids: []api.Term{}}}}
	nils := api.Term{Kind: api.TApp, Cons: "A", Kids: []api.Term{{Kind: api.TList}, {Kind: api.TNone}}}
	for _, d := range []api.Def{full, none} {
		for _, x := range []api.Term{empty, nils} {
			if text, code := Print(d, x, 0); code != api.OK || text != "a" {
				t.Errorf("%q %d", text, code)
			}
		}
		tree := treeOf(t, made(t, d), "top", "a")
		tree.Kids[0].Kids, tree.Kids[1].Kids[0].Kids = []api.Tree{}, []api.Tree{}
		if doc, code := Make(d, tree); code != api.OK || told(doc) != `C(G() "a" N2() C() C())` {
			t.Errorf("%s %d", told(doc), code)
		}
	}
}
