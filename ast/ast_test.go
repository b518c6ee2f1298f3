package ast

import (
	"fmt"
	"math"
	"slices"
	"strings"
	"testing"

	"tracery/api"
	"tracery/defs"
	"tracery/forest"
	"tracery/kernel"
	"tracery/terms"
	"tracery/trees"
)

// small is the chapter's example.
const small = `start E; cf E.A = E "+" E; cf E.N = N; lex N = [0-9];`

// most has each kind of hole, brackets of two sorts, lexical sorts of lists, and one with several trees.
const most = `start E;
	cf E.Add = E "+" E; cf E.Num = N; cf E.Neg = "-" E; cf E.Nil = "nil";
	cf E = "(" E ")" bracket; cf E = "<<" E ">" ">" bracket;
	cf E.Opt = "o" E? N?; cf E.Star = "s" {E ","}* "."; cf E.Plus = "p" {E ";;"}+ "."; cf E.Seq = "q" E*; cf E.Ids = "i" Id+ "."; cf E.All = "a" N? F* N? {N ","}* "." F; cf E.Of = "f" F;
	cf F.Pair = "#" E "=" N; cf F = "[" F "]" bracket;
	lex N = [0-9]+; lex Id = Part+ | "x" Id; lex Part = [xy] | "xx"; lex W = [\s]; `

// gaps is the same with a layout.
const gaps = most + ` layout W;`

func must(t testing.TB, text string) api.Def {
	t.Helper()
	d, fault := defs.Parse(text)
	if fault.Code != api.OK {
		t.Fatalf("%q: %v", text, fault)
	}
	return d
}

func made(t testing.TB, text string) api.Kern {
	t.Helper()
	k, code := kernel.Make(must(t, text))
	if code != api.OK {
		t.Fatalf("%q: %d", text, code)
	}
	return k
}

func term(t testing.TB, text string) api.Term {
	t.Helper()
	x, fault := terms.Parse(text)
	if fault.Code != api.OK {
		t.Fatalf("%q: %v", text, fault)
	}
	return x
}

// shown is a term's text, whatever the term.
func shown(t api.Term) string {
	if text, code := terms.Print(t); code == api.OK {
		return text
	}
	return fmt.Sprintf("%.200v", t)
}

// treeOf is the first tree of a sort, or of the top, over a text.
func treeOf(t testing.TB, k api.Kern, name, text string) api.Tree {
	t.Helper()
	list := treesOf(t, k, name, text, 1)
	if len(list) == 0 {
		t.Fatalf("%q is no %s", text, name)
	}
	return list[0]
}

func treesOf(t testing.TB, k api.Kern, name, text string, most int) []api.Tree {
	t.Helper()
	g := k.Gram
	g.Start = slices.Index(k.Names, name)
	list, code := forest.Trees(g, []byte(text), most)
	if code != api.OK {
		t.Fatalf("%q: %d", text, code)
	}
	return list
}

// The chapter's example.
func TestExample(t *testing.T) {
	d, k := must(t, small), made(t, small)
	tree := treeOf(t, k, "E", "1+2")
	have, code := Implode(d, tree)
	if code != api.OK || shown(have) != `A(N("1"),N("2"))` {
		t.Errorf("%s %d", shown(have), code)
	}
	if plain, code := Explode(d, "E", have); code != api.OK || !trees.Same(plain, tree) {
		t.Errorf("%v %d", plain, code)
	}
	if code := Sorted(d, "E", have); code != api.OK {
		t.Error(code)
	}
}

// P12.1: terms of a sort, and terms that are none.
func TestSorted(t *testing.T) {
	for _, text := range []string{most, gaps} {
		d := must(t, text)
		for _, c := range []struct{ sort, right, wrong string }{
			{"E", `Nil`, `Nil(Nil)  Nil([])  Nil("")`},
			{"E", `Num("1")  Num("")  Num("x")`, `Num  Num(Num("1"))  Num("1","2")  Num(-)  Num(?"1")  Num(["1"])  Num([])  Num(Nil)  Num(N("1"))`},
			{"E", `Add(Nil,Nil)  Add(Add(Nil,Num("1")),Nil)`, `Add  Add(Nil)  Add(Nil,Nil,Nil)  Add(Nil,"1")  Add("1",Nil)  Add(Nil,-)  Add(?Nil,Nil)  Add([Nil,Nil])  Add(Nil,[Nil])  Add(Nil,Pair(Nil,"1"))  Add(Nil,Add(Nil))`},
			{"E", `Opt(-,-)  Opt(?Nil,-)  Opt(-,?"1")  Opt(?Opt(-,?""),?"2")`, `Opt  Opt(-)  Opt(-,-,-)  Opt(Nil,-)  Opt(-,"1")  Opt(?"1",-)  Opt(-,?Nil)  Opt(-,?Num("1"))  Opt([],-)  Opt(-,[])  Opt([Nil],-)  Opt(??Nil,-)  Opt(?-,-)  Opt(?[],-)  Opt(-,??"1")`},
			{"E", `Star([])  Star([Nil])  Star([Nil,Star([Nil,Nil]),Nil])`, `Star  Star(-)  Star(Nil)  Star(?Nil)  Star("")  Star([],[])  Star(["1"])  Star([Nil,"1"])  Star([Nil,-])  Star([[]])  Star([[Nil]])  Star(?[])  Star([?Nil])  Star([Pair(Nil,"1")])`},
			{"E", `Plus([Nil])  Plus([Nil,Nil])`, `Plus([])  Plus  Plus(-)  Plus(Nil)  Plus(["1"])  Plus([Nil,Nil,[]])  Plus(Plus([Nil]))`},
			{"E", `Seq([])  Seq([Nil])  Seq([Seq([]),Nil])`, `Seq(-)  Seq(Nil)  Seq`},
			{"E", `Ids(["x"])  Ids(["","x","?"])`, `Ids([])  Ids("x")  Ids([Nil])  Ids(["x",Nil])  Ids([["x"]])`},
			{"E", `All(-,[],-,[],Pair(Nil,"1"))  All(?"1",[Pair(Nil,"1")],?"2",["3"],Pair(Nil,""))`, `All(-,[],-,[])  All(-,[],-,[],Nil)  All([],-,[],-,Pair(Nil,"1"))  All(-,[Nil],-,[],Pair(Nil,"1"))  All(-,[],-,[Nil],Pair(Nil,"1"))  All(-,[],?Nil,[],Pair(Nil,"1"))  All(-,[],-,[],Pair("1",Nil))`},
			{"E", `Of(Pair(Nil,"1"))`, `Pair(Nil,"1")  Of(Nil)  Of([Pair(Nil,"1")])`},
			{"F", `Pair(Nil,"1")`, `Nil  Num("1")  Pair(Nil,Nil)  Pair("1","1")  Pair  F  "1"  -  []  ?Pair(Nil,"1")`},
			{"N", `"1"  ""  "x"  "\x00\n"`, `Nil  N  Num("1")  N("1")  []  -  ?"1"  ["1"]`},
			{"Id", `"x"  "1"`, `Ids(["x"])  -`}, {"W", `" "  ""`, `W  Nil`}, {"Part", `"z"`, `Part`},
			{"E", `Nil`, `E  F  N  W  Id  Unknown  Unknown(Nil)  "1"  ""  -  []  ?Nil  [Nil]`},
		} {
			for _, x := range strings.Split(c.right, "  ") {
				if code := Sorted(d, c.sort, term(t, x)); code != api.OK {
					t.Errorf("%s is no %s: %d", x, c.sort, code)
				}
			}
			for _, x := range strings.Split(c.wrong, "  ") {
				if code := Sorted(d, c.sort, term(t, x)); code != api.ErrSort {
					t.Errorf("%s is a %s: %d", x, c.sort, code)
				}
				if tree, code := Explode(d, c.sort, term(t, x)); code != api.ErrSort || !trees.Same(tree, api.Tree{}) {
					t.Errorf("%s is a %s: %v %d", x, c.sort, tree, code)
				}
			}
		}
	}
}

// P12.1: a constructor of lexical productions is none, nor is a bracket's.
func TestNoConstructors(t *testing.T) {
	d := must(t, `start E; cf E.A = N; cf E = "(" E ")" bracket; lex N.Digit = [0-9] | [a]; lex N.A = "7";`)
	for text, want := range map[string]api.Errno{`A("1")`: api.OK, `Digit("1")`: api.ErrSort, `A(Digit)`: api.ErrSort, `A(A)`: api.ErrSort, `A(A("7"))`: api.ErrSort, `E`: api.ErrSort, `E(A("1"))`: api.ErrSort} {
		if code := Sorted(d, "E", term(t, text)); code != want {
			t.Errorf("%s: %d", text, code)
		}
	}
	for text, want := range map[string]api.Errno{`"1"`: api.OK, `Digit("1")`: api.ErrSort, `A("7")`: api.ErrSort, `Digit`: api.ErrSort, `A`: api.ErrSort} {
		if code := Sorted(d, "N", term(t, text)); code != want {
			t.Errorf("%s: %d", text, code)
		}
	}
}

// refused is definitions that kernel.Make refuses, one for each part.
func refused(t *testing.T) []api.Def {
	ring := []api.Item{{Kind: api.BGroup}}
	ring[0].Items = ring
	var list []api.Def
	for _, change := range []func(d *api.Def){
		func(d *api.Def) { *d = api.Def{} },
		func(d *api.Def) { d.Start = "" }, func(d *api.Def) { d.Start = "N" }, func(d *api.Def) { d.Layout = "E" }, func(d *api.Def) { d.Layout = "\x00" },
		func(d *api.Def) { d.Prods = nil }, func(d *api.Def) { d.Prods[0].Syms = nil }, func(d *api.Def) { d.Prods[0].Syms[0].Kind = 9 }, func(d *api.Def) { d.Prods[0].Syms[0].Name = "X" }, func(d *api.Def) { d.Prods[0].Lex = true }, func(d *api.Def) { d.Prods[1].Cons = "A" }, func(d *api.Def) { d.Prods[1].Bracket = true }, func(d *api.Def) { d.Prods = make([]api.Prod, api.MaxProds+1) },
		func(d *api.Def) { d.Chains = [][]api.Group{nil} }, func(d *api.Def) { d.Chains = [][]api.Group{{{Cons: []string{"X"}}}} }, func(d *api.Def) { d.Chains = [][]api.Group{{{Cons: []string{"A", "A"}}}} }, func(d *api.Def) { d.Chains = [][]api.Group{{{Assoc: 9, Cons: []string{"A"}}}} },
		func(d *api.Def) { d.Follows = []api.Follow{{Sort: "N"}} }, func(d *api.Def) { d.Follows = []api.Follow{{Sort: "X", Set: api.Set{1}}} },
		func(d *api.Def) { d.Rejects = []api.Reject{{}} }, func(d *api.Def) { d.Rejects = []api.Reject{{Sort: "N", By: "N"}} },
		func(d *api.Def) { d.Boxes = []api.Box{{Cons: "X"}} }, func(d *api.Def) { d.Boxes = []api.Box{{Cons: "N"}} }, func(d *api.Def) { d.Boxes = []api.Box{{Cons: "N", Items: ring}} },
	} {
		d := must(t, small)
		change(&d)
		list = append(list, d)
	}
	for _, text := range []string{`start E; cf E.A = E;`, `start E; cf E.A = N*; lex N = "n";`, `start E; cf E.A = "";`} {
		list = append(list, must(t, text))
	}
	return list
}

// wrongTerms is terms that are not right.
func wrongTerms() []api.Term {
	none := api.Term{Kind: api.TNone}
	deep := api.Term{Kind: api.TApp, Cons: "N", Kids: []api.Term{{Kind: api.TLex, Text: []byte("1")}}}
	for range api.MaxNest {
		deep = api.Term{Kind: api.TApp, Cons: "A", Kids: []api.Term{deep, {Kind: api.TApp, Cons: "N", Kids: []api.Term{{Kind: api.TLex, Text: []byte("1")}}}}}
	}
	ring := []api.Term{{Kind: api.TApp, Cons: "A"}, {Kind: api.TApp, Cons: "A"}}
	ring[0].Kids, ring[1].Kids = ring, ring
	return []api.Term{
		{}, {Kind: 6}, {Kind: -1, Cons: "A"}, {Kind: api.TApp}, {Kind: api.TApp, Cons: "a"}, {Kind: api.TApp, Cons: "N", Text: []byte("1")}, {Kind: api.TLex, Cons: "N", Text: []byte("1")}, {Kind: api.TLex, Kids: []api.Term{none}}, {Kind: api.TSome}, {Kind: api.TSome, Kids: []api.Term{none, none}}, {Kind: api.TNone, Text: []byte("x")}, {Kind: api.TList, Cons: "A"}, {Kind: api.TList, Kids: []api.Term{{}}},
		deep, ring[0], {Kind: api.TApp, Cons: "N", Kids: []api.Term{{Kind: api.TLex, Cons: "N", Text: []byte("1")}}},
	}
}

// P12.1 to P12.3: which error comes first where several apply.
func TestErrors(t *testing.T) {
	right := must(t, small)
	one := term(t, `N("1")`)
	tree := treeOf(t, made(t, small), "E", "1")
	sorts := []string{"", "e", "X", "A", "gap", "top", "[0-9]", "E ", "E\x00", "EE", strings.Repeat("E", 99)}
	for i, d := range refused(t) {
		for _, sort := range append(slices.Clone(sorts), "E", "N") {
			for _, x := range append(wrongTerms(), one, term(t, `N("x")`), term(t, `N`)) {
				a := Sorted(d, sort, x)
				if tree, b := Explode(d, sort, x); a != api.ErrDef || b != api.ErrDef || !trees.Same(tree, api.Tree{}) {
					t.Errorf("definition %d: %d %d", i, a, b)
				}
			}
		}
		for _, x := range []api.Tree{{}, {Rule: -1}, {Rule: 99}, tree} {
			if have, code := Implode(d, x); code != api.ErrDef || !terms.Same(have, api.Term{}) {
				t.Errorf("definition %d: %s %d", i, shown(have), code)
			}
		}
	}
	for _, sort := range sorts {
		for _, x := range append(wrongTerms(), one, term(t, `N("x")`), term(t, `N`)) {
			a := Sorted(right, sort, x)
			if tree, b := Explode(right, sort, x); a != api.ErrArg || b != api.ErrArg || !trees.Same(tree, api.Tree{}) {
				t.Errorf("%q: %d %d", sort, a, b)
			}
		}
	}
	for _, sort := range []string{"E", "N"} {
		for i, x := range wrongTerms() {
			a := Sorted(right, sort, x)
			if tree, b := Explode(right, sort, x); a != api.ErrTerm || b != api.ErrTerm || !trees.Same(tree, api.Tree{}) {
				t.Errorf("term %d: %d %d", i, a, b)
			}
		}
	}
	// no lexeme is asked for, before all of the term is one of the sort
	for _, text := range []string{`A(N("x"),N)`, `A(N(""),"1")`, `A(N("` + strings.Repeat("1", api.MaxInput+1) + `"),A(N("1")))`} {
		if tree, code := Explode(right, "E", term(t, text)); code != api.ErrSort || !trees.Same(tree, api.Tree{}) {
			t.Errorf("%s: %d", text, code)
		}
	}
	// a list's name is no sort, though it is a nonterminal's
	lists := must(t, gaps)
	for _, name := range made(t, gaps).Names {
		want := api.ErrArg
		if slices.Contains(strings.Fields("E F N Id Part W"), name) {
			want = api.ErrSort
		}
		if code := Sorted(lists, name, api.Term{Kind: api.TList}); code != want {
			t.Errorf("%q: %d", name, code)
		}
	}
}

// P12.2: texts of the top and of sorts, and the terms of all their trees.
func TestImplode(t *testing.T) {
	for _, c := range []struct{ name, text, want string }{
		{"top", "nil", `Nil`}, {"E", "nil", `Nil`}, {"E", "12", `Num("12")`}, {"N", "12", `"12"`}, {"Id", "xxy", `"xxy"`}, {"Part", "xx", `"xx"`}, {"W", " ", `" "`},
		{"top", "1+2", `Add(Num("1"),Num("2"))`}, {"E", "-1", `Neg(Num("1"))`}, {"F", "#1=2", `Pair(Num("1"),"2")`}, {"E", "f#1=2", `Of(Pair(Num("1"),"2"))`},
		// brackets, several within one another
		{"top", "(1)", `Num("1")`}, {"E", "((<<(1)>>))", `Num("1")`}, {"E", "(1)+(2+3)", `Add(Num("1"),Add(Num("2"),Num("3")))`}, {"E", "(1+2)+3", `Add(Add(Num("1"),Num("2")),Num("3"))  Add(Add(Num("1"),Num("2")),Num("3"))`}, {"F", "[[#(1)=2]]", `Pair(Num("1"),"2")`}, {"top", "-(<<1+2>>)", `Neg(Add(Num("1"),Num("2")))`},
		// holes that a mask leaves out
		{"E", "o", `Opt(-,-)`}, {"E", "onil", `Opt(?Nil,-)`}, {"E", "onil2", `Opt(?Nil,?"2")`}, {"E", "o1", `Opt(-,?"1")  Opt(?Num("1"),-)`}, {"E", "o(nil)", `Opt(?Nil,-)`}, {"E", "oo", `Opt(?Opt(-,-),-)`},
		// lists without a part, of one and of several
		{"E", "s.", `Star([])`}, {"E", "snil.", `Star([Nil])`}, {"E", "s(1),nil,(3).", `Star([Num("1"),Nil,Num("3")])`}, {"E", "ss.,s..", `Star([Star([]),Star([])])`}, {"E", "pnil.", `Plus([Nil])`}, {"E", "p1;;2;;3;;4.", `Plus([Num("1"),Num("2"),Num("3"),Num("4")])`}, {"E", "q", `Seq([])`}, {"E", "qnil(2)", `Seq([Nil,Num("2")])`}, {"E", "iy.", `Ids(["y"])`},
		{"E", "a.#nil=1", `All(-,[],-,[],Pair(Nil,"1"))`}, {"E", "a#nil=1#2=3.#nil=1", `All(-,[Pair(Nil,"1"),Pair(Num("2"),"3")],-,[],Pair(Nil,"1"))`}, {"E", "a1,2,3.[#nil=1]", `All(-,[],-,["1","2","3"],Pair(Nil,"1"))`},
	} {
		for _, text := range []string{most, gaps} {
			d, k := must(t, text), made(t, text)
			have := map[string]int{}
			for _, tree := range treesOf(t, k, c.name, c.text, 50) {
				x, code := Implode(d, tree)
				if code != api.OK {
					t.Fatalf("%q: %d", c.text, code)
				}
				have[shown(x)]++
			}
			for _, want := range strings.Split(c.want, "  ") {
				if have[want] == 0 {
					t.Errorf("%q has no term %s: %v", c.text, want, have)
				}
			}
			if !strings.Contains(c.want, "  ") && len(have) != 1 {
				t.Errorf("%q: %v", c.text, have)
			}
		}
	}
}

// P12.2: what stands in gaps is of no matter, also around the top.
func TestImplodeGaps(t *testing.T) {
	d, k := must(t, gaps), made(t, gaps)
	for text, want := range map[string]string{
		" nil ": `Nil`, "   1 +  2  ": `Add(Num("1"),Num("2"))`, " ( 1 ) ": `Num("1")`, "s .": `Star([])`, " s nil , ( nil )  ,nil . ": `Star([Nil,Nil,Nil])`, "p nil  ;;  nil  .": `Plus([Nil,Nil])`, "q nil  nil": `Seq([Nil,Nil])`, " o nil  7": `Opt(?Nil,?"7")`, "a . [ # nil = 1 ]": `All(-,[],-,[],Pair(Nil,"1"))`, "<< nil > >": `Nil`,
	} {
		list := treesOf(t, k, "top", text, 20)
		for _, tree := range list {
			if x, code := Implode(d, tree); code != api.OK || shown(x) != want {
				t.Errorf("%q: %s %d, not %s", text, shown(x), code, want)
			}
		}
		if len(list) == 0 {
			t.Errorf("%q has no tree", text)
		}
	}
}

// P12.2: trees that are none of a sort or the top.
func TestNoTrees(t *testing.T) {
	for _, text := range []string{most, gaps} {
		d, k := must(t, text), made(t, text)
		right := treeOf(t, k, "top", "1+nil")
		inner := treeOf(t, k, "E", "s1,2.")
		wrong := []api.Tree{
			{}, {Rule: -1}, {Rule: -1, Byte: 'n'}, {Rule: -2}, {Rule: len(k.Gram.Rules)}, {Rule: math.MaxInt}, {Rule: math.MinInt}, {Rule: right.Rule},
			{Rule: right.Rule, Byte: 1, Kids: right.Kids}, {Rule: right.Rule, Kids: append(slices.Clone(right.Kids), right)}, {Rule: right.Rule, Kids: right.Kids[1:]}, {Rule: right.Rule - 1, Kids: right.Kids}, {Rule: inner.Rule, Kids: right.Kids},
			{Rule: -1, Kids: []api.Tree{right}},
		}
		for name, text := range map[string]string{`{E ","}+`: "1,2", `[0-9]+`: "12", `Id+`: "x", `E+`: "nil", `Part+`: "xy", `{E ";;"}+`: "1", `F+`: "#1=2"} {
			wrong = append(wrong, treeOf(t, k, name, text)) // of a list
		}
		if k.Def.Layout != "" {
			wrong = append(wrong, treeOf(t, k, "gap", ""), treeOf(t, k, "gap", " "), treeOf(t, k, "gap", "  "))
		}
		for path := range allPaths(right) { // each part that is another one
			for _, put := range []api.Tree{{}, {Rule: -1, Byte: 0}, {Rule: 99999}, {Rule: -1, Byte: '0', Kids: []api.Tree{{}}}} {
				if changed, _ := trees.Put(right, path, put); !trees.Same(changed, right) {
					wrong = append(wrong, changed)
				}
			}
		}
		for i, tree := range wrong {
			if x, code := Implode(d, tree); code != api.ErrTree || !terms.Same(x, api.Term{}) {
				t.Errorf("tree %d: %s %d", i, shown(x), code)
			}
		}
	}
}

// allPaths goes through the paths of a tree.
func allPaths(t api.Tree) func(yield func([]int) bool) {
	return func(yield func([]int) bool) {
		waiting := [][]int{nil}
		for len(waiting) > 0 {
			path := waiting[0]
			waiting = waiting[1:]
			if !yield(path) {
				return
			}
			part, _ := trees.At(t, path)
			for i := range part.Kids {
				waiting = append(waiting, append(slices.Clone(path), i))
			}
		}
	}
}

// P12.3: plain trees, by their texts.
func TestExplode(t *testing.T) {
	// rules: 0 to 3 Opt, 4 Nil, 5 and 6 Star, 7 Plus, 8 the bracket, 9 N, 10 and 11 {E "::"}+, 12 and 13 E+, 14 and 15 [0-9]+
	const holes = `start E; cf E.Opt = "o" E? "," N?; cf E.Nil = "n"; cf E.Star = "s" {E "::"}* "."; cf E.Plus = E+ "!"; cf E = "(" E ")" bracket; lex N = [0-9]+;`
	// rules: 0 A, 1 L, 2 and 3 O, 4 N, 5 W, 6 and 7 {N ","}+, 8 the gap of nothing
	const spaced = `start E; layout W; cf E.A = E "ab" E; cf E.L = {N ","}+; cf E.O = "o" N?; lex N = [0-9]; lex W = [\s];`
	for _, c := range []struct{ def, sort, term, want string }{
		// rules: 0 A, 1 N, 2 N's digit, 3 top
		{small, "E", `N("7")`, "1(2(x37))"}, {small, "N", `"7"`, "2(x37)"}, {small, "E", `A(N("1"),A(N("2"),N("3")))`, "0(1(2(x31)) x2b 0(1(2(x32)) x2b 1(2(x33))))"}, {small, "E", `A(A(N("1"),N("2")),N("3"))`, "0(0(1(2(x31)) x2b 1(2(x32))) x2b 1(2(x33)))"},
		{holes, "E", `Opt(-,-)`, "0(x6f x2c)"},
		{holes, "E", `Opt(?Nil,-)`, "1(x6f 4(x6e) x2c)"},
		{holes, "E", `Opt(-,?"12")`, "2(x6f x2c 9(15(14(x31) x32)))"},
		{holes, "E", `Opt(?Nil,?"1")`, "3(x6f 4(x6e) x2c 9(14(x31)))"},
		{holes, "E", `Star([])`, "5(x73 x2e)"},
		{holes, "E", `Star([Nil])`, "6(x73 10(4(x6e)) x2e)"},
		{holes, "E", `Star([Nil,Nil,Nil])`, "6(x73 11(11(10(4(x6e)) x3a x3a 4(x6e)) x3a x3a 4(x6e)) x2e)"},
		{holes, "E", `Plus([Nil,Plus([Nil])])`, "7(13(12(4(x6e)) 7(12(4(x6e)) x21)) x21)"},
		{spaced, "E", `A(O(-),O(?"1"))`, "0(2(x6f) 8() x61 x62 8() 3(x6f 8() 4(x31)))"},
		{spaced, "E", `L(["1","2"])`, "1(7(6(4(x31)) 8() x2c 8() 4(x32)))"},
		{spaced, "W", `" "`, "5(x20)"},
	} {
		d := must(t, c.def)
		tree, code := Explode(d, c.sort, term(t, c.term))
		text, _ := trees.Print(tree)
		if code != api.OK || text != c.want {
			t.Errorf("%s: %s %d, not %s", c.term, text, code, c.want)
		}
		if back, code := Implode(d, tree); code != api.OK || shown(back) != c.term {
			t.Errorf("%s: back %s %d", c.term, shown(back), code)
		}
	}
}

// P12.3: a term's yield has its literals and lexemes, in order, and nothing in the gaps; there are no brackets.
func TestYields(t *testing.T) {
	for x, want := range map[string]string{
		`Add(Num("1"),Neg(Num("2")))`: "1+-2", `Opt(-,-)`: "o", `Opt(?Nil,?"0")`: "onil0", `Star([Nil,Nil])`: "snil,nil.", `Plus([Num("1"),Nil,Nil])`: "p1;;nil;;nil.", `Seq([Nil,Seq([])])`: "qnilq", `Ids(["xx","y"])`: "ixxy.",
		`All(?"1",[Pair(Nil,"2"),Pair(Num("3"),"4")],-,["5","6"],Pair(Nil,"7"))`: "a1#nil=2#3=45,6.#nil=7", `All(-,[],?"8",[],Pair(Nil,"9"))`: "a8.#nil=9",
	} {
		for _, text := range []string{most, gaps} {
			d := must(t, text)
			tree, code := Explode(d, "E", term(t, x))
			if code != api.OK || string(trees.Yield(tree)) != want {
				t.Errorf("%s: %q %d", x, trees.Yield(tree), code)
			}
		}
	}
}

// P12.3: lexemes of MaxInput bytes, of one more, and such as are none of their sort.
func TestLexemes(t *testing.T) {
	for _, text := range []string{most, gaps} {
		d := must(t, text)
		for _, c := range []struct {
			sort, text string
			want       api.Errno
		}{
			{"N", "1", api.OK}, {"N", strings.Repeat("1", api.MaxInput), api.OK}, {"N", strings.Repeat("1", api.MaxInput+1), api.ErrLex}, {"N", strings.Repeat("1", 99*api.MaxInput), api.ErrLex}, {"N", "", api.ErrLex}, {"N", "x", api.ErrLex}, {"N", "1x", api.ErrLex}, {"N", " 1", api.ErrLex}, {"N", "1 ", api.ErrLex}, {"N", strings.Repeat("1", api.MaxInput-1) + "x", api.ErrLex},
			{"Id", "xyx", api.OK}, {"Id", strings.Repeat("y", api.MaxInput), api.OK}, {"Id", "z", api.ErrLex}, {"Id", "", api.ErrLex}, {"Part", "xx", api.OK}, {"Part", "xy", api.ErrLex}, {"W", " ", api.OK}, {"W", "  ", api.ErrLex}, {"W", "", api.ErrLex},
		} {
			lexeme := api.Term{Kind: api.TLex, Text: []byte(c.text)}
			if code := Sorted(d, c.sort, lexeme); code != api.OK {
				t.Errorf("%.20q: %d", c.text, code)
			}
			tree, code := Explode(d, c.sort, lexeme)
			if code != c.want || code == api.OK && string(trees.Yield(tree)) != c.text || code != api.OK && !trees.Same(tree, api.Tree{}) {
				t.Errorf("%.20q of %s: %d", c.text, c.sort, code)
			}
			if c.sort != "N" {
				continue
			}
			for _, whole := range []api.Term{
				{Kind: api.TApp, Cons: "Num", Kids: []api.Term{lexeme}}, // in an SSort, an SOpt and a list, each behind one that is right
				{Kind: api.TApp, Cons: "Opt", Kids: []api.Term{{Kind: api.TSome, Kids: []api.Term{term(t, `Num("1")`)}}, {Kind: api.TSome, Kids: []api.Term{lexeme}}}},
				{Kind: api.TApp, Cons: "All", Kids: []api.Term{{Kind: api.TNone}, {Kind: api.TList}, {Kind: api.TNone}, {Kind: api.TList, Kids: []api.Term{term(t, `"1"`), lexeme}}, term(t, `Pair(Nil,"1")`)}},
			} {
				if _, code := Explode(d, "E", whole); code != c.want {
					t.Errorf("%.20q in %s: %d", c.text, whole.Cons, code)
				}
			}
		}
	}
	// follows and rejects are not asked
	d := must(t, `start E; cf E.A = N N; lex N = [0-9]+; lex K = "7"; follow N [0-9]; reject N K;`)
	if tree, code := Explode(d, "E", term(t, `A("7","7")`)); code != api.OK || string(trees.Yield(tree)) != "77" {
		t.Errorf("%v %d", tree, code)
	}
	// a sort that has no texts
	d = must(t, `start E; cf E.A = N; cf E.B = M; lex N = []; lex M = M "m";`)
	for _, text := range []string{`A("1")`, `A("")`, `B("m")`, `B("mm")`} {
		if _, code := Explode(d, "E", term(t, text)); code != api.ErrLex {
			t.Errorf("%s: %d", text, code)
		}
	}
}

// P12.3: of several trees over a lexeme's text the first one, whichever rules lie ahead of those of its sort.
func TestFirstTrees(t *testing.T) {
	const text = `start E; cf E.A = "a" V+; cf E.B = V; lex U = "a" | U U; lex V = T | V V | [a] [a]? | T T*; lex T = [ab] | "a" | T "b"; lex S = V; layout S0; lex S0 = U;`
	d, k := must(t, text), made(t, text)
	for _, sort := range []string{"U", "V", "T", "S", "S0"} {
		for _, w := range []string{"a", "b", "aa", "ab", "aba", "aaaa", "abab", "abba", "baaab", "aaaaaaa"} {
			list := treesOf(t, k, sort, w, 5)
			tree, code := Explode(d, sort, api.Term{Kind: api.TLex, Text: []byte(w)})
			if len(list) == 0 {
				if code != api.ErrLex {
					t.Errorf("%q of %s: %d", w, sort, code)
				}
				continue
			}
			if code != api.OK || !trees.Same(tree, list[0]) {
				t.Errorf("%q of %s: %v %d, not %v", w, sort, tree, code, list[0])
			}
			if sort != "V" {
				continue
			}
			// the same one each time it is met
			whole, code := Explode(d, "E", api.Term{Kind: api.TApp, Cons: "A", Kids: []api.Term{{Kind: api.TList, Kids: slices.Repeat([]api.Term{{Kind: api.TLex, Text: []byte(w)}}, 3)}}})
			count := 0
			for path := range allPaths(whole) {
				if part, _ := trees.At(whole, path); trees.Same(part, list[0]) {
					count++
				}
			}
			if code != api.OK || count < 3 {
				t.Errorf("%q: %d times, %d", w, count, code)
			}
		}
	}
}
