package paren

import (
	"slices"
	"strconv"
	"strings"
	"testing"

	"tracery/api"
	"tracery/ast"
	"tracery/kernel"
	"tracery/terms"
	"tracery/trees"
)

// Terms as deep as may be, with a bracket at each level, and deeper by one.
func TestDeepTerms(t *testing.T) {
	for _, text := range []string{small, small + ` layout W; lex W = " ";`} {
		d := must(t, text)
		x := term(t, `N("a")`)
		for deep := 2; deep <= api.MaxNest+1; deep++ { // N of a lexeme is 2 deep
			if deep > 2 {
				x = api.Term{Kind: api.TApp, Cons: "A", Kids: []api.Term{term(t, `N("b")`), x}}
			}
			if deep%49 > 1 && deep < api.MaxNest-2 {
				continue
			}
			if deep > api.MaxNest {
				tells(t, d, "E", x, api.ErrTerm)
				continue
			}
			brackets := max(deep-3, 0)
			tree, e1 := Insert(d, "E", x)
			paths, e2 := Needs(d, "E", x)
			if e1 != api.OK || e2 != api.OK || len(paths) != brackets || strings.Count(string(trees.Yield(tree)), "(") != brackets {
				t.Fatalf("%d deep: %d %d, %d paths", deep, e1, e2, len(paths))
			}
			for i, path := range paths {
				if !slices.Equal(path, slices.Repeat([]int{1}, i+1)) {
					t.Errorf("%d deep: path %d is %v", deep, i, path)
				}
			}
			plain, _ := ast.Explode(d, "E", x)
			if bare, code := Strip(d, tree); code != api.OK || !trees.Same(bare, plain) {
				t.Errorf("%d deep: %d", deep, code)
			}
		}
	}
}

// Trees that are deeper than any right term's: brackets within brackets.
func TestDeepTrees(t *testing.T) {
	d := must(t, small)
	k := made(t, d)
	inner := treesOf(t, k, "E", "a+b", 1)[0]
	bracket := kernel.Rules(k, 2)[0]
	for _, deep := range []int{1, 2, 1 << 16, 1 << 19} {
		tree := inner
		for range deep {
			tree = api.Tree{Rule: bracket, Kids: []api.Tree{{Rule: -1, Byte: '('}, tree, {Rule: -1, Byte: ')'}}}
		}
		if bare, code := Strip(d, tree); code != api.OK || !trees.Same(bare, inner) {
			t.Errorf("%d deep: %d", deep, code)
		}
		// a bracket at each level
		tree = inner
		for range deep {
			tree = api.Tree{Rule: bracket, Kids: []api.Tree{{Rule: -1, Byte: '('}, {Kids: []api.Tree{tree, {Rule: -1, Byte: '+'}, inner.Kids[0]}}, {Rule: -1, Byte: ')'}}}
		}
		if bare, code := Strip(d, tree); code != api.OK || string(trees.Yield(bare)) != "a+b"+strings.Repeat("+a", deep) {
			t.Errorf("%d deep: %d", deep, code)
		}
	}
}

// Lists of many parts, whose trees nest as often.
func TestLongLists(t *testing.T) {
	for _, text := range texts() {
		d := must(t, text)
		for _, n := range []int{1, 2, 3, 1000, 1 << 17} {
			x := api.Term{Kind: api.TApp, Cons: "List", Kids: []api.Term{{Kind: api.TList, Kids: slices.Repeat([]api.Term{digits(t, "7")}, n)}}}
			x.Kids[0].Kids[n/2] = digits(t, "Mul(1,Add(2,3))")
			x.Kids[0].Kids[n-1] = digits(t, "Mul(Add(1,2),3)")
			tree, e1 := Insert(d, "E", x)
			paths, e2 := Needs(d, "E", x)
			want := [][]int{{0, n / 2, 1}, {0, n - 1, 0}}
			if n/2 == n-1 {
				want = want[1:]
			}
			if e1 != api.OK || e2 != api.OK || !slices.EqualFunc(paths, want, slices.Equal) {
				t.Fatalf("%d parts: %d %v %d", n, e1, paths, e2)
			}
			plain, _ := ast.Explode(d, "E", x)
			if bare, code := Strip(d, tree); code != api.OK || !trees.Same(bare, plain) || len(trees.Yield(tree)) != len(trees.Yield(bare))+2*len(want) {
				t.Errorf("%d parts: %d", n, code)
			}
			if back, code := ast.Implode(d, tree); code != api.OK || !terms.Same(back, x) {
				t.Errorf("%d parts: %d", n, code)
			}
		}
	}
}

// manyBans is a definition that bans about as much as one can: nearly a hundred million times.
func manyBans(t *testing.T) api.Def {
	text, up, down := `start E; cf E.C0 = "0"; cf E = "(" E ")" bracket; `, "prio non C0", " C0; "
	for i := 1; i < api.MaxProds-1; i++ {
		name := "C" + strconv.Itoa(i)
		text += "cf E." + name + ` = E? E? E? "x" E? E E E E E E E; `
		if i%13 == 0 {
			up, down = up+" > non", " > non"+down
		}
		up, down = up+" "+name, " "+name+down
	}
	return must(t, text+up+"; prio non"+down)
}

// A definition whose chains ban very much is answered soon.
func TestManyBans(t *testing.T) {
	d := manyBans(t)
	const row = `C0,C0,C0,C0,C0,C0`
	for x, want := range map[string]string{
		`C0`:                          "0",
		`C7(-,-,-,-,` + row + `,C0)`:  "x000000(0)", // one group: at the sides alone
		`C20(-,-,-,-,` + row + `,C0)`: "x(0)(0)(0)(0)(0)(0)(0)",
		`C7(?C0,-,-,?C9(-,-,-,-,` + row + `,C0),` + row + `,C0)`:  "(0)xx000000(0)000000(0)",
		`C7(-,?C150(-,-,-,-,` + row + `,C0),-,-,` + row + `,C0)`:  "(x(0)(0)(0)(0)(0)(0)(0))x000000(0)",
		`C99(-,-,?C1(?C0,-,-,-,` + row + `,C0),-,` + row + `,C0)`: "((0)x000000(0))x(0)(0)(0)(0)(0)(0)(0)",
	} {
		for range 3 {
			tree, e1 := Insert(d, "E", term(t, x))
			paths, e2 := Needs(d, "E", term(t, x))
			if e1 != api.OK || e2 != api.OK || string(trees.Yield(tree)) != want || len(paths) != strings.Count(want, "(") {
				t.Fatalf("%s: %q %d, %v %d, not %q", x, trees.Yield(tree), e1, paths, e2, want)
			}
			if bare, code := Strip(d, tree); code != api.OK || string(trees.Yield(bare)) != strings.NewReplacer("(", "", ")", "").Replace(want) {
				t.Fatalf("%s: %q %d", x, trees.Yield(bare), code)
			}
		}
	}
}
