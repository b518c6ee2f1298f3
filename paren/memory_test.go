package paren

import (
	"reflect"
	"slices"
	"testing"

	"tracery/api"
	"tracery/defs"
	"tracery/terms"
	"tracery/trees"
)

// piece is the memory of a list, up to its capacity; it holds the list, since memory that nobody
// holds is given to another list.
type piece struct {
	from, to uintptr
	held     reflect.Value
}

// pieces is the memory of all lists in a value.
func pieces(v reflect.Value) []piece {
	var list []piece
	switch v.Kind() {
	case reflect.Struct:
		for i := range v.NumField() {
			list = append(list, pieces(v.Field(i))...)
		}
	case reflect.Slice:
		if v.Cap() > 0 {
			list = append(list, piece{v.Pointer(), v.Pointer() + uintptr(v.Cap())*v.Type().Elem().Size(), v})
		}
		for i := range v.Len() {
			list = append(list, pieces(v.Index(i))...)
		}
	}
	return list
}

// spoil changes all that can be changed in a value.
func spoil(v reflect.Value) {
	switch v.Kind() {
	case reflect.String:
		v.SetString(v.String() + "Z")
	case reflect.Int:
		v.SetInt(v.Int() + 1)
	case reflect.Uint8, reflect.Uint64:
		v.SetUint(v.Uint() ^ 255)
	case reflect.Bool:
		v.SetBool(!v.Bool())
	case reflect.Struct:
		for i := range v.NumField() {
			spoil(v.Field(i))
		}
	case reflect.Slice, reflect.Array:
		for i := range v.Len() {
			spoil(v.Index(i))
		}
	}
}

// greatTerm has brackets within brackets, the same lexeme several times, and each kind of hole.
const greatTerm = `Mul(Add(Num("12"),Add(Num("12"),List([Mul(Add(1,2),Sub(1,2)),1]))),Opt(?Add(1,2),-,?Seq([Neg(Eq(1,Eq(2,3)))])))`

// greatText is a text of such brackets.
const greatText = "((1)+([(2);<<(3)>>]))*(o,(4+5))"

// No two lists of an answer share memory, and none shares any with another answer or an argument.
func TestNewMemory(t *testing.T) {
	for _, text := range texts() {
		d, x := must(t, text), digits(t, greatTerm)
		tree := treesOf(t, made(t, d), "top", greatText, 1)[0]
		list := slices.Concat(pieces(reflect.ValueOf(d)), pieces(reflect.ValueOf(x)), pieces(reflect.ValueOf(tree)))
		var kept []any
		for range 2 {
			with, e1 := Insert(d, "E", x)
			paths, e2 := Needs(d, "E", x)
			bare, e3 := Strip(d, tree)
			again, e4 := Strip(d, bare)
			if e1 != api.OK || e2 != api.OK || e3 != api.OK || e4 != api.OK || len(paths) < 5 {
				t.Fatal(e1, e2, e3, e4, paths)
			}
			kept = append(kept, with, paths, bare, again)
		}
		for _, answer := range kept {
			list = append(list, pieces(reflect.ValueOf(answer))...)
		}
		slices.SortFunc(list, func(a, b piece) int { return int(a.from) - int(b.from) })
		for i := range list[1:] {
			if list[i].to > list[i+1].from {
				t.Errorf("lists share memory: %v %v", list[i], list[i+1])
			}
		}
	}
}

// What is written into an answer is seen by nobody, and what is handed in stays as it was.
func TestNothingIsKept(t *testing.T) {
	for _, text := range texts() {
		text += ` follow N [0-9]; box Neg = "~" 1; lex K = "7"; reject N K;`
		d, x := must(t, text), digits(t, greatTerm)
		tree := treesOf(t, made(t, d), "top", greatText, 1)[0]
		same := func() bool {
			return defs.Same(d, must(t, text)) && terms.Same(x, digits(t, greatTerm)) && trees.Same(tree, treesOf(t, made(t, d), "top", greatText, 1)[0])
		}
		with, _ := Insert(d, "E", x)
		paths, _ := Needs(d, "E", x)
		bare, _ := Strip(d, tree)
		Insert(d, "F", x)
		Needs(d, "F", x)
		Strip(d, api.Tree{Rule: -1, Kids: []api.Tree{tree}})
		if !same() {
			t.Error("an argument changed")
		}
		first, firstPaths, firstBare := clone(with), [][]int{}, clone(bare)
		for _, path := range paths {
			firstPaths = append(firstPaths, slices.Clone(path))
		}
		for _, answer := range []reflect.Value{reflect.ValueOf(&with), reflect.ValueOf(&paths), reflect.ValueOf(&bare)} {
			spoil(answer.Elem())
		}
		if !same() {
			t.Error("an argument changed with an answer")
		}
		with, _ = Insert(d, "E", x)
		paths, _ = Needs(d, "E", x)
		bare, _ = Strip(d, tree)
		for _, argument := range []reflect.Value{reflect.ValueOf(&d), reflect.ValueOf(&x), reflect.ValueOf(&tree)} {
			spoil(argument.Elem())
		}
		if !trees.Same(with, first) || !reflect.DeepEqual(paths, firstPaths) || !trees.Same(bare, firstBare) {
			t.Error("an answer changed")
		}
	}
}

func clone(t api.Tree) api.Tree {
	own, _ := trees.At(t, nil)
	return own
}

// What lies behind a list's length is neither read nor written.
func TestBehindTheLists(t *testing.T) {
	whole := func() api.Def {
		return must(t, `start E; cf E.A = E "+" E; cf E.N = N; cf E = "(" E ")" bracket; lex N = [a-z]; cf E = "[" E "]" bracket; prio left A; prio right A N; follow X [a]; reject Y Z; box B = "c";`)
	}
	more := whole()
	d := more
	d.Prods, d.Chains, d.Follows, d.Rejects, d.Boxes = d.Prods[:4], d.Chains[:1], nil, d.Rejects[:0], d.Boxes[:0]
	x := term(t, `A(A(N("a"),N("b")),A(N("c"),N("d")))`)
	cut := api.Term{Kind: api.TApp, Cons: "A", Text: []byte("a")[:0], Kids: append(slices.Clone(x.Kids), x)[:2]}
	tree, e1 := Insert(d, "E", cut)
	paths, e2 := Needs(d, "E", cut)
	if e1 != api.OK || e2 != api.OK || string(trees.Yield(tree)) != "a+b+(c+d)" || steps(paths) != "1" {
		t.Errorf("%q %d %v %d", trees.Yield(tree), e1, paths, e2)
	}
	want := clone(tree)
	tree.Kids = append(tree.Kids, tree)[:3]
	tree.Kids[1].Kids = []api.Tree{want}[:0]
	if bare, code := Strip(d, tree); code != api.OK || string(trees.Yield(bare)) != "a+b+c+d" || cap(bare.Kids[1].Kids) > 0 {
		t.Errorf("%q %d", trees.Yield(bare), code)
	}
	if !defs.Same(more, whole()) || len(cut.Kids[:3][2].Kids) != 2 || !trees.Same(tree.Kids[1].Kids[:1][0], want) {
		t.Error("what lies behind a list changed")
	}
	// what follows a path's end in an answer is no other path's
	deep := term(t, `A(N("a"),A(N("b"),A(N("c"),N("d"))))`)
	paths, _ = Needs(d, "E", deep)
	for i := range paths {
		paths[i] = append(paths[i], 9)
	}
	if !reflect.DeepEqual(paths, [][]int{{1, 9}, {1, 1, 9}}) {
		t.Error(paths)
	}
}

// Empty lists and nil ones are the same.
func TestEmptyLists(t *testing.T) {
	const text = `start E; cf E.A = "a" B* E?; cf E = "(" E ")" bracket; lex B = [b]; prio non A;`
	d, none := must(t, text), must(t, text)
	d.Follows, d.Rejects, d.Boxes = []api.Follow{}, []api.Reject{}, []api.Box{}
	none.Follows, none.Rejects, none.Boxes = nil, nil, nil
	empty := api.Term{Kind: api.TApp, Cons: "A", Text: []byte{}, Kids: []api.Term{{Kind: api.TList, Text: []byte{}, Kids: []api.Term{}}, {Kind: api.TNone, Text: []byte{}, Kids: []api.Term{}}}}
	nils := api.Term{Kind: api.TApp, Cons: "A", Kids: []api.Term{{Kind: api.TList}, {Kind: api.TNone}}}
	for _, d := range []api.Def{d, none} {
		for _, inner := range []api.Term{empty, nils} {
			x := api.Term{Kind: api.TApp, Cons: "A", Kids: []api.Term{{Kind: api.TList}, {Kind: api.TSome, Kids: []api.Term{inner}}}}
			tree, e1 := Insert(d, "E", x)
			paths, e2 := Needs(d, "E", x)
			if e1 != api.OK || e2 != api.OK || string(trees.Yield(tree)) != "a(a)" || steps(paths) != "10" {
				t.Errorf("%q %d %v %d", trees.Yield(tree), e1, paths, e2)
			}
			tree.Kids[0].Kids = []api.Tree{}
			if bare, code := Strip(d, tree); code != api.OK || string(trees.Yield(bare)) != "aa" {
				t.Errorf("%q %d", trees.Yield(bare), code)
			}
		}
	}
	d.Chains = [][]api.Group{}
	none.Chains = nil
	for _, d := range []api.Def{d, none} {
		if paths, code := Needs(d, "E", nils); len(paths) != 0 || code != api.OK {
			t.Errorf("%v %d", paths, code)
		}
	}
}
