package paren

import (
	"fmt"
	"math"
	"reflect"
	"slices"
	"strings"
	"testing"

	"tracery/api"
	"tracery/ast"
	"tracery/defs"
	"tracery/filter"
	"tracery/forest"
	"tracery/kernel"
	"tracery/terms"
	"tracery/trees"
)

// small is the chapter's example.
const small = `start E; cf E.A = E "+" E; cf E.N = N; cf E = "(" E ")" bracket; lex N = [a-z]; prio left A;`

// most has each kind of hole, a sort with several brackets (E), with one (G) and with none (F), and each associativity.
const most = `start E;
	cf E.Add = E "+" E; cf E.Sub = E "-" E; cf E.Mul = E "*" E; cf E.Pow = E "^" E; cf E.Eq = E "=" E; cf E.Neg = "~" E; cf E.Num = N;
	cf E.Opt = E? "o" E? "," E?; cf E.List = "[" {E ";"}* "]"; cf E.Seq = E+ "!"; cf E.If = "if" E "then" E "else" E; cf E.Of = "f" F; cf E.Gs = "g" G "." G?;
	cf F.Or = F "|" F; cf F.And = F "&" F; cf F.In = "i" E; cf F.All = "all" {F ","}+ "."; cf F.Any = F? "any";
	cf G.Two = G "@" G; cf G.One = N; cf G.Some = "s" E;
	cf E = "(" E ")" bracket; cf E = "<<" E ">" ">" bracket; cf G = "[" "[" G "]]" bracket;
	lex N = [0-9]+; lex W = [\s];
	prio right Pow > Neg > left Mul > left Add Sub > non Eq > If; prio Opt List Seq > Add > Eq; prio left And > left Or; prio Any > Or; prio right Two; `

// texts are definitions without a layout, and with one.
func texts() []string { return []string{most, most + "layout W;"} }

func must(t testing.TB, text string) api.Def {
	t.Helper()
	d, fault := defs.Parse(text)
	if fault.Code != api.OK {
		t.Fatalf("%q: %v", text, fault)
	}
	return d
}

func made(t testing.TB, d api.Def) api.Kern {
	t.Helper()
	k, code := kernel.Make(d)
	if code != api.OK {
		t.Fatal(code)
	}
	return k
}

func term(t testing.TB, text string) api.Term {
	t.Helper()
	x, fault := terms.Parse(text)
	if fault.Code != api.OK {
		t.Fatalf("%q: %v", text, fault)
	}
	return x
}

// shown is a term's text, whatever the term.
func shown(t api.Term) string {
	if text, code := terms.Print(t); code == api.OK {
		return text
	}
	return fmt.Sprintf("%.200v", t)
}

// digits makes a term of a short text: a digit is Num of it.
func digits(t testing.TB, short string) api.Term {
	t.Helper()
	text, quoted := "", false
	for _, c := range short {
		if c == '"' {
			quoted = !quoted
		}
		if '0' <= c && c <= '9' && !quoted {
			text += fmt.Sprintf(`Num("%c")`, c)
		} else {
			text += string(c)
		}
	}
	return term(t, text)
}

// treesOf is the first trees of a sort, or of the top, over a text.
func treesOf(t testing.TB, k api.Kern, name, text string, most int) []api.Tree {
	t.Helper()
	g := k.Gram
	g.Start = slices.Index(k.Names, name)
	list, code := forest.Trees(g, []byte(text), most)
	if code != api.OK {
		t.Fatalf("%q: %d", text, code)
	}
	return list
}

// steps is the digits of paths.
func steps(paths [][]int) string {
	var list []string
	for _, path := range paths {
		text := ""
		for _, step := range path {
			text += fmt.Sprint(step)
		}
		list = append(list, text)
	}
	return strings.Join(list, " ")
}

// The chapter's examples.
func TestExamples(t *testing.T) {
	d := must(t, small)
	for _, c := range []struct{ term, text, paths string }{
		{`A(N("a"),A(N("b"),N("c")))`, "a+(b+c)", "1"}, {`A(A(N("a"),N("b")),N("c"))`, "a+b+c", ""},
	} {
		tree, e1 := Insert(d, "E", term(t, c.term))
		paths, e2 := Needs(d, "E", term(t, c.term))
		if e1 != api.OK || e2 != api.OK || string(trees.Yield(tree)) != c.text || steps(paths) != c.paths {
			t.Errorf("%s: %q %d, %v %d", c.term, trees.Yield(tree), e1, paths, e2)
		}
	}
}

// P13.1 and P13.2: where there are brackets, and the paths that lead to what is in them.
func TestBrackets(t *testing.T) {
	for _, c := range []struct{ term, text, paths string }{
		// no bracket is needed
		{`1`, "1", ""}, {`Add(1,2)`, "1+2", ""}, {`Add(Mul(1,2),Pow(3,4))`, "1*2+3^4", ""}, {`Eq(Add(1,2),Sub(3,4))`, "1+2=3-4", ""}, {`Pow(1,Pow(2,3))`, "1^2^3", ""}, {`Sub(Add(1,2),3)`, "1+2-3", ""}, {`Neg(Neg(1))`, "~~1", ""},
		// at each side of a node
		{`Mul(Add(1,2),3)`, "(1+2)*3", "0"}, {`Mul(1,Add(2,3))`, "1*(2+3)", "1"}, {`Mul(Add(1,2),Sub(3,4))`, "(1+2)*(3-4)", "0 1"},
		// associativities: left, right, non, and none
		{`Add(1,Add(2,3))`, "1+(2+3)", "1"}, {`Add(1,Sub(2,3))`, "1+(2-3)", "1"}, {`Sub(1,Add(2,3))`, "1-(2+3)", "1"}, {`Pow(Pow(1,2),3)`, "(1^2)^3", "0"}, {`Eq(Eq(1,2),3)`, "(1=2)=3", "0"}, {`Eq(1,Eq(2,3))`, "1=(2=3)", "1"}, {`Eq(Eq(1,2),Eq(3,4))`, "(1=2)=(3=4)", "0 1"}, {`If(If(1,2,3),If(4,5,6),If(7,8,9))`, "ifif1then2else3thenif4then5else6elseif7then8else9", ""},
		// a node above another one's in the chain, at a symbol in its midst and at its only one
		{`Neg(Add(1,2))`, "~(1+2)", "0"}, {`Neg(Pow(1,2))`, "~1^2", ""}, {`Pow(Neg(1),Neg(2))`, "(~1)^(~2)", "0 1"}, {`Pow(1,Eq(2,3))`, "1^(2=3)", "1"}, {`Eq(If(1,2,3),4)`, "(if1then2else3)=4", "0"}, {`If(Eq(1,2),Add(3,4),5)`, "if1=2then3+4else5", ""},
		// brackets within brackets, each ahead of those within it
		{`Mul(Add(1,Add(2,3)),4)`, "(1+(2+3))*4", "0 01"}, {`Pow(Mul(Add(1,2),3),4)`, "((1+2)*3)^4", "0 00"}, {`Mul(Eq(1,Eq(2,Eq(3,4))),Add(Eq(5,6),7))`, "(1=(2=(3=4)))*((5=6)+7)", "0 01 011 1 10"}, {`Mul(Add(Add(1,Add(2,3)),Add(4,5)),6)`, "(1+(2+3)+(4+5))*6", "0 001 01"},
		// in an option, which is there or not
		{`Opt(-,-,-)`, "o,", ""}, {`Opt(?Add(1,2),-,-)`, "(1+2)o,", "00"}, {`Opt(-,?Add(1,2),-)`, "o(1+2),", "10"}, {`Opt(-,-,?Add(1,2))`, "o,(1+2)", "20"}, {`Opt(?1,?Add(1,Add(2,3)),?Mul(Add(1,2),3))`, "1o(1+(2+3)),(1+2)*3", "10 101 200"}, {`Opt(?Add(1,2),?Mul(3,4),?Add(5,6))`, "(1+2)o3*4,(5+6)", "00 20"},
		// in a list, whose own parts need none
		{`List([])`, "[]", ""}, {`List([Add(1,2),Eq(3,4)])`, "[1+2;3=4]", ""}, {`List([1,Add(2,Add(3,4)),5,Mul(Add(6,7),8)])`, "[1;2+(3+4);5;(6+7)*8]", "011 030"}, {`Seq([Add(1,2)])`, "1+2!", ""}, {`Seq([1,Mul(2,List([Mul(3,Add(4,5))]))])`, "12*[3*(4+5)]!", "011001"}, {`Mul(Add(1,List([Mul(1,Add(2,3))])),4)`, "(1+[1*(2+3)])*4", "0 01001"},
		// other sorts, and what stands within them
		{`Of(Or(And(In(1),In(2)),In(3)))`, "fi1&i2|i3", ""}, {`Of(In(Mul(1,Add(2,3))))`, "fi1*(2+3)", "001"}, {`Of(All([In(1),Or(In(2),In(Mul(3,Add(4,5))))]))`, "falli1,i2|i3*(4+5).", "001101"}, {`Add(1,Of(In(Add(2,3))))`, "1+fi2+3", ""},
		{`Gs(Two(Two(One("1"),One("2")),One("3")),-)`, "g[[1@2]]@3.", "00"}, {`Gs(One("1"),?Two(Two(One("1"),Some(Mul(1,Add(2,3)))),One("3")))`, "g1.[[1@s1*(2+3)]]@3", "100 100101"}, {`Gs(Two(One("1"),Two(One("2"),One("3"))),-)`, "g1@2@3.", ""},
	} {
		x := digits(t, c.term)
		for _, text := range texts() {
			d := must(t, text)
			tree, e1 := Insert(d, "E", x)
			paths, e2 := Needs(d, "E", x)
			if e1 != api.OK || e2 != api.OK || string(trees.Yield(tree)) != c.text || steps(paths) != c.paths {
				t.Errorf("%s: %q %d, %v %d, not %q, %s", c.term, trees.Yield(tree), e1, paths, e2, c.text, c.paths)
			}
			looksRight(t, d, "E", x)
		}
	}
}

// Of a sort that is not Start, and of lexical ones.
func TestOtherSorts(t *testing.T) {
	for _, text := range texts() {
		d := must(t, text)
		for _, c := range []struct{ sort, term, text, paths string }{
			{"G", `Two(Two(One("1"),One("2")),One("3"))`, "[[1@2]]@3", "0"}, {"F", `Or(In(Num("1")),In(Mul(Num("1"),Add(Num("2"),Num("3")))))`, "i1|i1*(2+3)", "101"}, {"N", `"123"`, "123", ""}, {"W", `" "`, " ", ""},
		} {
			tree, e1 := Insert(d, c.sort, term(t, c.term))
			paths, e2 := Needs(d, c.sort, term(t, c.term))
			if e1 != api.OK || e2 != api.OK || string(trees.Yield(tree)) != c.text || steps(paths) != c.paths {
				t.Errorf("%s: %q %d, %v %d", c.term, trees.Yield(tree), e1, paths, e2)
			}
			looksRight(t, d, c.sort, term(t, c.term))
		}
	}
}

// P13.1: trees, by their texts: the first bracket of the sort, its literals, its gaps empty.
func TestTrees(t *testing.T) {
	// rules: 0 A, 1 N, 2 and 3 brackets, 4 N's letter, 5 W's blank, then the gap's of nothing
	const two = `start E; cf E.A = E "+" E; cf E.N = N; cf E = "(:" E ")" bracket; cf E = "[" E "]" bracket; lex N = [a-z]; lex W = " "; prio left A;`
	for _, c := range []struct{ def, term, want string }{
		{small, `A(N("a"),A(N("b"),N("c")))`, "0(1(3(x61)) x2b 2(x28 0(1(3(x62)) x2b 1(3(x63))) x29))"},
		{small, `A(A(N("a"),N("b")),N("c"))`, "0(0(1(3(x61)) x2b 1(3(x62))) x2b 1(3(x63)))"},
		{two, `A(N("a"),A(N("b"),N("c")))`, "0(1(4(x61)) x2b 2(x28 x3a 0(1(4(x62)) x2b 1(4(x63))) x29))"},
		{two + `layout W;`, `A(N("a"),A(N("b"),N("c")))`, "0(1(4(x61)) 6() x2b 6() 2(x28 x3a 6() 0(1(4(x62)) 6() x2b 6() 1(4(x63))) 6() x29))"},
		// several literals, with gaps between each two symbols
		{`start E; layout W; cf E.A = "a" E; cf E.B = "b"; cf E = "p" "qr" E "s" "t" bracket; lex W = " "; prio A > B;`, `A(B)`, "0(x61 4() 2(x70 4() x71 x72 4() 1(x62) 4() x73 4() x74))"},
	} {
		tree, code := Insert(must(t, c.def), "E", term(t, c.term))
		if text, _ := trees.Print(tree); code != api.OK || text != c.want {
			t.Errorf("%s: %s %d, not %s", c.term, text, code, c.want)
		}
	}
}

// P13.1 and P13.2: a kid must be bracketed whose sort has no bracket.
func TestErrNeed(t *testing.T) {
	for _, text := range texts() {
		d := must(t, text)
		for _, x := range []string{
			`Of(And(Or(In(1),In(2)),In(3)))`, `Of(Or(In(1),Or(In(2),In(3))))`, `Of(Any(?Or(In(1),In(2))))`, `Add(1,Of(And(In(1),And(In(2),In(3)))))`, `Of(All([In(1),And(In(2),Or(In(3),In(4)))]))`,
			`Mul(Add(1,2),Of(And(In(1),Or(In(2),In(3)))))`, `Mul(Of(And(In(1),Or(In(2),In(3)))),Add(1,2))`, // beside one that can be bracketed
		} {
			tree, e1 := Insert(d, "E", digits(t, x))
			paths, e2 := Needs(d, "E", digits(t, x))
			if e1 != api.ErrNeed || e2 != api.ErrNeed || !trees.Same(tree, api.Tree{}) || paths != nil {
				t.Errorf("%s: %d %d", x, e1, e2)
			}
		}
		d.Chains = nil
		if tree, code := Insert(d, "E", digits(t, `Of(And(Or(In(1),In(2)),In(3)))`)); code != api.OK || string(trees.Yield(tree)) != "fi1|i2&i3" {
			t.Errorf("without chains: %d", code)
		}
	}
	// the kid's own sort is asked, not the one above it
	d := must(t, `start E; cf E.A = F "a"; cf E.B = "b"; cf F.C = E "c"; cf F.D = "d"; cf F = "(" F ")" bracket; prio A > D; prio C > B;`)
	if tree, code := Insert(d, "E", term(t, `A(D)`)); code != api.OK || string(trees.Yield(tree)) != "(d)a" {
		t.Errorf("%q %d", trees.Yield(tree), code)
	}
	if _, code := Insert(d, "E", term(t, `A(C(B))`)); code != api.ErrNeed {
		t.Error(code)
	}
}

// refused is definitions that kernel.Make refuses.
func refused(t *testing.T) []api.Def {
	ring := []api.Item{{Kind: api.BGroup}}
	ring[0].Items = ring
	var list []api.Def
	for _, change := range []func(d *api.Def){
		func(d *api.Def) { *d = api.Def{} },
		func(d *api.Def) { d.Start = "" }, func(d *api.Def) { d.Start = "N" }, func(d *api.Def) { d.Layout = "E" }, func(d *api.Def) { d.Layout = "\x00" },
		func(d *api.Def) { d.Prods = nil }, func(d *api.Def) { d.Prods[0].Syms = nil }, func(d *api.Def) { d.Prods[0].Syms[0].Kind = 9 }, func(d *api.Def) { d.Prods[0].Syms[0].Name = "X" }, func(d *api.Def) { d.Prods[1].Cons = "A" }, func(d *api.Def) { d.Prods = make([]api.Prod, api.MaxProds+1) },
		// brackets that are none
		func(d *api.Def) { d.Prods[1].Bracket = true }, func(d *api.Def) { d.Prods[2].Cons = "B" }, func(d *api.Def) { d.Prods[2].Syms = d.Prods[2].Syms[:2] }, func(d *api.Def) { d.Prods[2].Syms = d.Prods[2].Syms[1:] }, func(d *api.Def) { d.Prods[2].Syms[0] = d.Prods[2].Syms[1] }, func(d *api.Def) { d.Prods[2].Syms[1].Kind = api.SOpt }, func(d *api.Def) { d.Prods[2].Syms[1].Name = "N" }, func(d *api.Def) { d.Prods[3].Bracket = true }, func(d *api.Def) { d.Prods[2].Lex = true },
		// chains that are none, also of constructors that no term has
		func(d *api.Def) { d.Chains = [][]api.Group{nil} }, func(d *api.Def) { d.Chains = [][]api.Group{{}} }, func(d *api.Def) { d.Chains = [][]api.Group{{{Cons: nil}}} }, func(d *api.Def) { d.Chains = [][]api.Group{{{Cons: []string{"X"}}}} }, func(d *api.Def) { d.Chains = [][]api.Group{{{Cons: []string{"A", "A"}}}} }, func(d *api.Def) { d.Chains = [][]api.Group{{{Assoc: 9, Cons: []string{"A"}}}} }, func(d *api.Def) {
			d.Chains = [][]api.Group{{{Assoc: -1, Cons: []string{"A"}}}, {{Cons: []string{"N"}}, {Cons: []string{"N"}}}}
		},
		func(d *api.Def) { d.Follows = []api.Follow{{Sort: "N"}} }, func(d *api.Def) { d.Rejects = []api.Reject{{}} }, func(d *api.Def) { d.Boxes = []api.Box{{Cons: "X"}} }, func(d *api.Def) { d.Boxes = []api.Box{{Cons: "N", Items: ring}} },
	} {
		d := must(t, small)
		change(&d)
		list = append(list, d)
	}
	for _, text := range []string{`start E; cf E.A = E;`, `start E; cf E.A = N*; lex N = "n";`, `start E; cf E.A = "";`} {
		list = append(list, must(t, text))
	}
	return list
}

// wrongTerms is terms that are not right.
func wrongTerms() []api.Term {
	none := api.Term{Kind: api.TNone}
	deep := api.Term{Kind: api.TApp, Cons: "N", Kids: []api.Term{{Kind: api.TLex, Text: []byte("a")}}}
	for range api.MaxNest {
		deep = api.Term{Kind: api.TApp, Cons: "A", Kids: []api.Term{deep, {Kind: api.TApp, Cons: "N", Kids: []api.Term{{Kind: api.TLex, Text: []byte("a")}}}}}
	}
	ring := []api.Term{{Kind: api.TApp, Cons: "A"}, {Kind: api.TApp, Cons: "A"}}
	ring[0].Kids, ring[1].Kids = ring, ring
	return []api.Term{
		{}, {Kind: 6}, {Kind: -1, Cons: "A"}, {Kind: api.TApp}, {Kind: api.TApp, Cons: "a"}, {Kind: api.TApp, Cons: "N", Text: []byte("a")}, {Kind: api.TLex, Cons: "N", Text: []byte("a")}, {Kind: api.TLex, Kids: []api.Term{none}}, {Kind: api.TSome}, {Kind: api.TSome, Kids: []api.Term{none, none}}, {Kind: api.TNone, Text: []byte("x")}, {Kind: api.TList, Cons: "A"}, {Kind: api.TList, Kids: []api.Term{{}}},
		deep, ring[0],
	}
}

// tells looks whether Insert and Needs tell an error, and nothing beside it.
func tells(t *testing.T, d api.Def, sort string, x api.Term, want api.Errno) {
	t.Helper()
	tree, e1 := Insert(d, sort, x)
	paths, e2 := Needs(d, sort, x)
	if e1 != want || e2 != want || !trees.Same(tree, api.Tree{}) || len(paths) != 0 {
		t.Errorf("%s of %q: %d %d, not %d", shown(x), sort, e1, e2, want)
	}
}

// P13.1 to P13.3: which error comes first where several apply.
func TestErrors(t *testing.T) {
	right := must(t, small)
	one := term(t, `N("a")`)
	tree := treesOf(t, made(t, right), "E", "a", 1)[0]
	sorts := []string{"", "e", "X", "A", "gap", "top", "[a-z]", "E ", "E\x00", strings.Repeat("E", 99)}
	for _, d := range refused(t) {
		for _, sort := range []string{"", "X", "E", "N"} {
			for _, x := range append(wrongTerms(), one, term(t, `N("0")`), term(t, `N`), term(t, `A(N("a"),A(N("b"),N("c")))`)) {
				tells(t, d, sort, x, api.ErrDef)
			}
		}
		for _, x := range []api.Tree{{}, {Rule: -1}, {Rule: 99}, tree} {
			if have, code := Strip(d, x); code != api.ErrDef || !trees.Same(have, api.Tree{}) {
				t.Errorf("%v: %v %d", x, have, code)
			}
		}
	}
	for _, sort := range sorts {
		for _, x := range append(wrongTerms(), one, term(t, `N("0")`), term(t, `N`)) {
			tells(t, right, sort, x, api.ErrArg)
		}
	}
	for _, sort := range []string{"E", "N"} {
		for _, x := range wrongTerms() {
			tells(t, right, sort, x, api.ErrTerm)
		}
	}
	for _, text := range []string{`N`, `N("a","b")`, `"a"`, `A(N("a"))`, `A(N("0"),N)`, `-`, `[]`, `?N("a")`, `X`, `A(A(N("a"),A(N("b"),N("c"))),"a")`} {
		tells(t, right, "E", term(t, text), api.ErrSort)
	}
	for _, text := range []string{`N("0")`, `N("")`, `N("ab")`, `A(N("a"),A(N("b"),N("0")))`, `N("` + strings.Repeat("a", api.MaxInput+1) + `")`} {
		tells(t, right, "E", term(t, text), api.ErrLex)
	}
	// a lexeme that is none is told ahead of a bracket that is not there
	bare := right
	bare.Prods = slices.Delete(slices.Clone(right.Prods), 2, 3)
	tells(t, bare, "E", term(t, `A(N("a"),A(N("b"),N("c")))`), api.ErrNeed)
	tells(t, bare, "E", term(t, `A(N("a"),A(N("b"),N("0")))`), api.ErrLex)
	tells(t, bare, "E", term(t, `A(A(N("0"),A(N("b"),N("c"))),N("a"))`), api.ErrLex)
	tells(t, bare, "E", term(t, `A(N("a"),A(N("b"),N))`), api.ErrSort)
	tells(t, bare, "X", term(t, `A(N("a"),A(N("b"),N("c")))`), api.ErrArg)
}

// P13.3: brackets at the root, several within one another, around lexical sorts, and in gaps' company.
func TestStrip(t *testing.T) {
	for _, c := range []struct{ name, text, want string }{
		{"E", "1", "1"}, {"E", "(1)", "1"}, {"E", "((1))", "1"}, {"E", "<<(<<1>>)>>", "1"}, {"top", "(1)", "1"}, {"top", "((1)+(2))*(3)", "1+2*3"}, {"E", "(1+2)*3", "1+2*3"}, {"E", "[(1);((2+(3)));4]", "[1;2+3;4]"}, {"E", "(1)(2)!", "12!"}, {"E", "(1)o(2),((3))", "1o2,3"}, {"E", "o,", "o,"},
		{"G", "[[[[1]]@[[2]]]]", "1@2"}, {"E", "g[[s(1)]].", "gs1."}, {"E", "(fi(1))", "fi1"}, {"N", "12", "12"}, {"W", " ", " "}, {"E", "if(1)then(<<2>>)else3", "if1then2else3"},
	} {
		for _, text := range texts() {
			d := must(t, text)
			k := made(t, d)
			list := treesOf(t, k, c.name, c.text, 5)
			if len(list) == 0 {
				t.Errorf("%q is no %s", c.text, c.name)
			}
			for _, tree := range list {
				bare, code := Strip(d, tree)
				if code != api.OK || string(trees.Yield(bare)) != c.want || !trees.Same(bare, slowStrip(k, tree)) || countBrackets(k, bare) != 0 {
					t.Errorf("%q: %q %d, not %q", c.text, trees.Yield(bare), code, c.want)
				}
			}
		}
	}
	d := must(t, texts()[1])
	k := made(t, d)
	for text, want := range map[string]string{ // the gaps of a bracket go with it, those beside it stay
		" ( 1 ) ": " 1 ", " 1 +  (  2 + ( 3 )  )   ": " 1 +  2 + 3   ", "( ( 1 ) )": "1", "[ (1 ) ; << 2 > > ]": "[ 1 ; 2 ]",
	} {
		for _, tree := range treesOf(t, k, "top", text, 9) {
			if bare, code := Strip(d, tree); code != api.OK || string(trees.Yield(bare)) != want {
				t.Errorf("%q: %q %d, not %q", text, trees.Yield(bare), code, want)
			}
		}
	}
}

// P13.3: trees that are none of a sort or the top.
func TestStripNoTrees(t *testing.T) {
	for _, text := range texts() {
		d := must(t, text)
		k := made(t, d)
		right := treesOf(t, k, "top", "(1+2)*3", 1)[0]
		bracket := treesOf(t, k, "E", "(1)", 1)[0]
		wrong := []api.Tree{
			{}, {Rule: -1}, {Rule: -1, Byte: '('}, {Rule: -2}, {Rule: len(k.Gram.Rules)}, {Rule: math.MaxInt}, {Rule: math.MinInt}, {Rule: right.Rule}, {Rule: bracket.Rule}, {Rule: bracket.Rule, Kids: bracket.Kids[1:]}, {Rule: bracket.Rule, Byte: 1, Kids: bracket.Kids}, {Rule: bracket.Rule, Kids: slices.Repeat([]api.Tree{bracket}, len(bracket.Kids))}, {Rule: bracket.Rule + 1, Kids: bracket.Kids}, {Rule: -1, Kids: []api.Tree{bracket}},
			treesOf(t, k, `{E ";"}+`, "1;2", 1)[0], treesOf(t, k, `[0-9]+`, "12", 1)[0], treesOf(t, k, `E+`, "(1)2", 1)[0],
		}
		if d.Layout != "" {
			wrong = append(wrong, treesOf(t, k, "gap", "", 1)[0], treesOf(t, k, "gap", "  ", 1)[0])
		}
		for path := range allPaths(right) {
			for _, put := range []api.Tree{{}, {Rule: -1}, {Rule: 99999}, {Rule: -1, Byte: '0', Kids: []api.Tree{{}}}} {
				if changed, _ := trees.Put(right, path, put); !trees.Same(changed, right) {
					wrong = append(wrong, changed)
				}
			}
		}
		for i, tree := range wrong {
			if bare, code := Strip(d, tree); code != api.ErrTree || !trees.Same(bare, api.Tree{}) {
				t.Errorf("tree %d: %v %d", i, bare, code)
			}
		}
	}
}

// P13.7: without chains there is no bracket.
func TestNoChains(t *testing.T) {
	for _, text := range texts() {
		d := must(t, text)
		d.Chains = nil
		for _, x := range []string{`Mul(Add(1,Add(2,3)),4)`, `Eq(Eq(1,2),Eq(3,4))`, `Opt(?Add(1,2),?Opt(-,-,-),-)`} {
			plain, _ := ast.Explode(d, "E", digits(t, x))
			tree, e1 := Insert(d, "E", digits(t, x))
			if paths, e2 := Needs(d, "E", digits(t, x)); e1 != api.OK || e2 != api.OK || len(paths) != 0 || !trees.Same(tree, plain) {
				t.Errorf("%s: %v %d %d", x, paths, e1, e2)
			}
		}
	}
}

// What is bracketed is read as itself, where operators stand between their operands alone.
func TestReadAgain(t *testing.T) {
	d := must(t, `start E; layout W; cf E.Add = E "+" E; cf E.Sub = E "-" E; cf E.Mul = E "*" E; cf E.Pow = E "^" E; cf E.Eq = E "=" E; cf E.Num = N; cf E = "(" E ")" bracket; lex N = [0-9]; lex W = [\s]; prio right Pow > left Mul > left Add Sub > non Eq;`)
	k := made(t, d)
	names := []string{"Add", "Sub", "Mul", "Pow", "Eq"}
	var all []string // of up to three operators
	for n := range 4 {
		all = append(all, operations(names, n)...)
	}
	for i, short := range all {
		if i%7 != 0 && len(short) > 60 {
			continue
		}
		x := digits(t, short)
		tree, code := Insert(d, "E", x)
		if code != api.OK {
			t.Fatalf("%s: %d", short, code)
		}
		list, code := filter.Trees(k.Gram, k.Filters, trees.Yield(tree), 2)
		if code != api.OK || len(list) != 1 {
			t.Fatalf("%s: %q has %d trees", short, trees.Yield(tree), len(list))
		}
		if back, _ := ast.Implode(d, list[0]); !terms.Same(back, x) {
			t.Fatalf("%s: %q is read as %s", short, trees.Yield(tree), shown(back))
		}
	}
}

// operations is all terms of so many operators.
func operations(names []string, n int) []string {
	if n == 0 {
		return []string{"7"}
	}
	var list []string
	for left := range n {
		for _, a := range operations(names, left) {
			for _, b := range operations(names, n-1-left) {
				for _, name := range names {
					list = append(list, name+"("+a+","+b+")")
				}
			}
		}
	}
	return list
}

// The same is told each time.
func TestAgain(t *testing.T) {
	d := must(t, texts()[1])
	x := digits(t, `Mul(Add(1,Add(2,3)),Opt(?Add(1,2),?Mul(3,4),?Add(5,6)))`)
	tree, _ := Insert(d, "E", x)
	paths, _ := Needs(d, "E", x)
	for range 9 {
		again, _ := Insert(d, "E", x)
		if more, _ := Needs(d, "E", x); !trees.Same(again, tree) || !reflect.DeepEqual(more, paths) {
			t.Errorf("%v, then %v", paths, more)
		}
	}
}
