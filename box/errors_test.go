package box

import (
	"math"
	"slices"
	"strings"
	"testing"

	"tracery/api"
	"tracery/trees"
)

// refused is definitions that kernel.Make refuses.
func refused(t *testing.T) []api.Def {
	ring := []api.Item{{Kind: api.BGroup}}
	ring[0].Items = ring
	var list []api.Def
	for _, change := range []func(d *api.Def){
		func(d *api.Def) { *d = api.Def{} },
		func(d *api.Def) { d.Start = "" }, func(d *api.Def) { d.Start = "N" }, func(d *api.Def) { d.Start = "X" }, func(d *api.Def) { d.Layout = "E" }, func(d *api.Def) { d.Layout = "\x00" },
		func(d *api.Def) { d.Prods = nil }, func(d *api.Def) { d.Prods[0].Syms = nil }, func(d *api.Def) { d.Prods[0].Syms[0].Kind = 9 }, func(d *api.Def) { d.Prods[0].Syms[0].Name = "X" }, func(d *api.Def) { d.Prods[1].Cons = "A" }, func(d *api.Def) { d.Prods[2].Bracket = false }, func(d *api.Def) { d.Prods = make([]api.Prod, api.MaxProds+1) },
		func(d *api.Def) { d.Chains = [][]api.Group{nil} }, func(d *api.Def) { d.Chains = [][]api.Group{{{Cons: []string{"X"}}}} }, func(d *api.Def) { d.Chains[0][0].Assoc = -1 },
		func(d *api.Def) { d.Follows = []api.Follow{{Sort: "N"}} }, func(d *api.Def) { d.Rejects = []api.Reject{{}} },
		// templates that are none
		func(d *api.Def) { d.Boxes[0].Cons = "X" }, func(d *api.Def) { d.Boxes[0].Cons = "" }, func(d *api.Def) { d.Boxes = append(d.Boxes, d.Boxes...) }, func(d *api.Def) { d.Boxes[0].Items = nil }, func(d *api.Def) { d.Boxes[0].Items = ring }, func(d *api.Def) { d.Boxes[0].Items[0].Kind = 7 }, func(d *api.Def) { d.Boxes[0].Items[0].Kind = 0 }, func(d *api.Def) { d.Boxes[0].Items[0].N = 1 }, func(d *api.Def) { d.Boxes[0].Items[0].Items[0].N = 2 }, func(d *api.Def) { d.Boxes[0].Items[0].Items[0].N = 0 }, func(d *api.Def) { d.Boxes[0].Items[0].Items[0].N = -1 }, func(d *api.Def) { d.Boxes[0].Items[0].Items[0].N = math.MaxInt }, func(d *api.Def) { d.Boxes[0].Items[0].Items[2].Text = "-" }, func(d *api.Def) { d.Boxes[0].Items[0].Items = d.Boxes[0].Items[0].Items[1:] },
		func(d *api.Def) {
			d.Boxes[0].Items = []api.Item{{Kind: api.BNest, N: 41, Items: d.Boxes[0].Items[0].Items}}
		}, func(d *api.Def) {
			d.Boxes[0].Items = []api.Item{{Kind: api.BNest, N: -1, Items: d.Boxes[0].Items[0].Items}}
		}, func(d *api.Def) {
			d.Boxes[0].Items = append(d.Boxes[0].Items, slices.Repeat([]api.Item{{Kind: api.BLine}}, api.MaxItems)...)
		},
	} {
		d := must(t, small)
		change(&d)
		list = append(list, d)
	}
	for _, text := range []string{`start E; cf E.A = E;`, `start E; cf E.A = N*; lex N = "n";`, `start E; cf E.A = "";`, `start E; cf E.A = "a"; box A = ;`} {
		list = append(list, must(t, text))
	}
	return list
}

// wrongTerms is terms that are not right.
func wrongTerms() []api.Term {
	none := api.Term{Kind: api.TNone}
	one := api.Term{Kind: api.TApp, Cons: "N", Kids: []api.Term{{Kind: api.TLex, Text: []byte("1")}}}
	deep := one
	for range api.MaxNest {
		deep = api.Term{Kind: api.TApp, Cons: "A", Kids: []api.Term{deep, one}}
	}
	ring := []api.Term{{Kind: api.TApp, Cons: "A"}, {Kind: api.TApp, Cons: "A"}}
	ring[0].Kids, ring[1].Kids = ring, ring
	return []api.Term{
		{}, {Kind: 6}, {Kind: -1, Cons: "A"}, {Kind: api.TApp}, {Kind: api.TApp, Cons: "a"}, {Kind: api.TApp, Cons: "N", Text: []byte("a")}, {Kind: api.TLex, Cons: "N", Text: []byte("a")}, {Kind: api.TLex, Kids: []api.Term{none}}, {Kind: api.TSome}, {Kind: api.TSome, Kids: []api.Term{none, none}}, {Kind: api.TNone, Text: []byte("x")}, {Kind: api.TList, Cons: "A"}, {Kind: api.TList, Kids: []api.Term{{}}},
		deep, ring[0],
	}
}

// widths is narrow ones, wide ones and those that are none.
func widths() []int { return []int{math.MinInt, -1, 0, 1, 80, math.MaxInt} }

// printTells looks whether Print tells an error, and nothing beside it, in each width.
func printTells(t *testing.T, d api.Def, x api.Term, want api.Errno) {
	t.Helper()
	for _, width := range widths() {
		if text, code := Print(d, x, width); text != "" || code != want {
			t.Errorf("%s in %d: %q %d, not %d", shown(x), width, text, code, want)
		}
	}
}

// P15.1: definitions that are refused, and trees that are none.
func TestMakeErrors(t *testing.T) {
	right := must(t, small)
	tree := treeOf(t, made(t, right), "top", "1 + (2+ 3)")
	for _, d := range refused(t) {
		for _, x := range []api.Tree{{}, {Rule: -1}, {Rule: 99}, tree} {
			if doc, code := Make(d, x); code != api.ErrDef || told(doc) != told(api.Doc{}) {
				t.Errorf("%v: %s %d", x, told(doc), code)
			}
		}
	}
	for _, def := range []string{most, most + boxes, most + "layout W;", most + boxes + "layout W;"} {
		d := must(t, def)
		k := made(t, d)
		wrong := []api.Tree{
			{}, {Rule: -1}, {Rule: -1, Byte: '1'}, {Rule: -2}, {Rule: math.MinInt}, {Rule: math.MaxInt}, {Rule: len(k.Gram.Rules)},
			// of a nonterminal that is neither a sort nor the top
			treeOf(t, k, "[0-9]+", "12"), treeOf(t, k, `{E ";"}+`, "1;2"), treeOf(t, k, "E+", "nilnil"), treeOf(t, k, "N+", "1"),
		}
		if d.Layout != "" {
			wrong = append(wrong, treeOf(t, k, "gap", ""), treeOf(t, k, "gap", " \n"))
		}
		whole := treeOf(t, k, "top", "s1;(onil,2);q12.+3.")
		for path := range allPaths(whole) {
			for _, put := range []api.Tree{{}, {Rule: -1}, {Rule: 99999}, {Rule: -1, Byte: '\n'}, {Rule: -1, Byte: '0', Kids: []api.Tree{{}}}, {Rule: len(k.Gram.Rules) - 1, Byte: 1}} {
				if changed, _ := trees.Put(whole, path, put); !trees.Same(changed, whole) && !isRight(k, changed) {
					wrong = append(wrong, changed)
				}
			}
		}
		for i, tree := range wrong {
			if doc, code := Make(d, tree); code != api.ErrTree || told(doc) != told(api.Doc{}) {
				t.Errorf("tree %d: %s %d", i, told(doc), code)
			}
		}
	}
	// a tree that is none comes ahead of a literal that may not be
	d := must(t, `start E; cf E.A = "\n" N; lex N = [0-9];`)
	for text, want := range map[string]api.Errno{"0(x0a 1(x30))": api.ErrDoc, "0(x0a 1(x0a))": api.ErrTree, "1(x30)": api.OK, "2(0(x0a 1(x30)))": api.ErrDoc, "2(1(x30))": api.ErrTree, "0()": api.ErrTree} {
		tree, _ := trees.Parse(text)
		if _, code := Make(d, tree); code != want {
			t.Errorf("%s: %d, not %d", text, code, want)
		}
	}
}

// isRight tells whether a tree is still one of its root's nonterminal, where that is a sort or the top.
func isRight(k api.Kern, t api.Tree) bool {
	if t.Rule < 0 || t.Rule >= len(k.From) || k.From[t.Rule].Kind != api.OUser && k.From[t.Rule].Kind != api.OTop {
		return false
	}
	return trees.Right(k.Gram, k.Gram.Rules[t.Rule].Lhs, t) == api.OK
}

// allPaths goes through the paths of a tree.
func allPaths(t api.Tree) func(yield func([]int) bool) {
	return func(yield func([]int) bool) {
		waiting := [][]int{nil}
		for len(waiting) > 0 {
			path := waiting[0]
			waiting = waiting[1:]
			if !yield(path) {
				return
			}
			part, _ := trees.At(t, path)
			for i := range part.Kids {
				waiting = append(waiting, append(slices.Clone(path), i))
			}
		}
	}
}

// P15.2: which error comes first where several apply.
func TestPrintErrors(t *testing.T) {
	right := must(t, small)
	for _, d := range refused(t) {
		for _, x := range append(wrongTerms(), term(t, `N("1")`), term(t, `N("x")`), term(t, `N`)) {
			printTells(t, d, x, api.ErrDef)
		}
	}
	for _, x := range wrongTerms() {
		printTells(t, right, x, api.ErrTerm)
	}
	// right terms, but none of Start
	for _, text := range []string{`N`, `N("1","2")`, `"1"`, `A(N("1"))`, `A(N("x"),N)`, `-`, `[]`, `?N("1")`, `X`, `A(A(N("1"),A(N("2"),N("3"))),"1")`} {
		printTells(t, right, term(t, text), api.ErrSort)
	}
	for text, want := range map[string]api.Errno{
		`N("x")`: api.ErrLex, `N("12")`: api.ErrLex, `N("")`: api.ErrLex, `A(N("1"),A(N("2"),N("x")))`: api.ErrLex, `N("\n")`: api.ErrLex,
	} {
		printTells(t, right, term(t, text), want)
	}
	// F has no bracket; a lexeme may have a byte 10, and be long; what is printed is never read
	d := must(t, `start E; layout W; cf E.A = F; cf F.Or = F "|" F; cf F.I = I; lex I = [a-z\n]+; lex W = "~"; prio left Or; lex K = [a-z\n]+; reject I K; cf G.B = "b";`)
	long := strings.Repeat("a", api.MaxInput)
	for text, want := range map[string]api.Errno{
		`B`: api.ErrSort, `I("a")`: api.ErrSort, `A(I("a"))`: api.ErrPrint, `A(Or(I("a"),I("b")))`: api.ErrPrint, `A(I("` + long + `"))`: api.ErrPrint,
		`A(Or(I("` + long + `"),I("b")))`: api.ErrLong, `A(Or(I("` + long + `"),I("\n")))`: api.ErrDoc, `A(I("\n"))`: api.ErrDoc, `A(Or(I("a\na"),I("b")))`: api.ErrDoc,
		`A(Or(I("a\na"),Or(I("b"),I("c"))))`: api.ErrNeed, `A(Or(I("` + long + `"),Or(I("b"),I("c"))))`: api.ErrNeed, `A(Or(I("A"),Or(I("b"),I("c"))))`: api.ErrLex, `A(Or(I("a\na"),I("` + long + `a")))`: api.ErrLex, `A(Or(I("A"),Or(I("b"),B)))`: api.ErrSort,
	} {
		printTells(t, d, term(t, text), want)
	}
	// a literal with a byte 10
	d = must(t, `start E; layout W; cf E.A = "a" E; cf E.B = "\n"; cf E.C = {E "\n"}+ "."; lex W = "\n";`)
	for text, want := range map[string]api.Errno{`B`: api.ErrDoc, `A(B)`: api.ErrDoc, `C([A(B)])`: api.ErrDoc, `C([B,B])`: api.ErrDoc} {
		printTells(t, d, term(t, text), want)
	}
	d = must(t, `start E; layout W; cf E.A = "a"; cf E.C = {E "\n"}+ "."; lex W = "\n"; box C = 1 ".";`)
	for text, want := range map[string]string{`A`: "a", `C([A])`: "a.", `C([A,A])`: ""} {
		if have, code := Print(d, term(t, text), 0); have != want || (code == api.OK) != (want != "") || code != api.OK && code != api.ErrDoc {
			t.Errorf("%s: %q %d", text, have, code)
		}
	}
}
