package trees

import (
	"fmt"
	"math"
	"slices"
	"strings"
	"testing"

	"tracery/api"
	"tracery/charset"
	"tracery/defs"
	"tracery/forest"
	"tracery/kernel"
)

func leaf(b byte) api.Tree { return api.Tree{Rule: -1, Byte: b} }

func node(rule int, kids ...api.Tree) api.Tree { return api.Tree{Rule: rule, Kids: kids} }

// odd is a leaf with Kids, or a node with a Byte.
func odd(rule int, b byte, kids ...api.Tree) api.Tree {
	return api.Tree{Rule: rule, Byte: b, Kids: kids}
}

// tower is a tree of that depth, its last part the bottom.
func tower(deep int, bottom api.Tree) api.Tree {
	for range deep - 1 {
		bottom = node(0, bottom)
	}
	return bottom
}

// example is the first tree of the chapter.
func example() api.Tree { return node(0, leaf(49), leaf(43), node(1, leaf(50))) }

// all tells each field of a tree.
func all(t api.Tree) string {
	text := fmt.Sprintf("%d:%d{", t.Rule, t.Byte)
	for _, kid := range t.Kids {
		text += all(kid)
	}
	return text + "}"
}

// gram is a grammar of rules like `A>AaB`: great letters are nonterminals, A being 0 and Start; `!` is a symbol of an empty set, `#` a digit, any other sign its byte.
func gram(nts int, rules ...string) api.Gram {
	g := api.Gram{Nts: nts}
	for _, text := range rules {
		r := api.Rule{Lhs: int(text[0] - 'A')}
		for _, c := range []byte(text[2:]) {
			r.Rhs = append(r.Rhs, sign(c))
		}
		g.Rules = append(g.Rules, r)
	}
	return g
}

func sign(c byte) api.KSym {
	switch {
	case c == '!':
		return api.KSym{Nt: -1}
	case c == '#':
		return api.KSym{Nt: -1, Set: charset.Of([]byte("0123456789")...)}
	case 'A' <= c && c <= 'Z':
		return api.KSym{Nt: int(c - 'A')}
	}
	return api.KSym{Nt: -1, Set: charset.Of(c)}
}

// sum is E > E "+" E, E > digit, and beside it what is not reached, what is cyclic, and what has no text.
func sum() api.Gram {
	return gram(4, "A>A+A", "A>#", "B>", "B>BAB", "C>C", "C>c", "D>!", "A>BAB")
}

// P9.1: trees of a nonterminal.
func TestRight(t *testing.T) {
	one := node(1, leaf('1'))
	for _, c := range []struct {
		nt   int
		tree api.Tree
		want api.Errno
	}{
		{0, one, api.OK},
		{0, node(0, one, leaf('+'), one), api.OK},
		{0, node(0, node(0, one, leaf('+'), one), leaf('+'), one), api.OK},
		{0, node(7, node(2), one, node(3, node(2), one, node(2))), api.OK},
		{1, node(2), api.OK}, {1, api.Tree{Rule: 2, Kids: []api.Tree{}}, api.OK},
		{2, node(5, leaf('c')), api.OK}, {2, node(4, node(4, node(5, leaf('c')))), api.OK}, // a step to itself
		// of another nonterminal
		{1, one, api.ErrTree}, {0, node(2), api.ErrTree}, {0, node(5, leaf('c')), api.ErrTree}, {3, one, api.ErrTree},
		{0, node(0, one, leaf('+'), node(2)), api.ErrTree}, {0, node(7, node(2), one, one), api.ErrTree},
		// no rule
		{0, node(8, leaf('1')), api.ErrTree}, {0, node(-2, leaf('1')), api.ErrTree}, {0, node(math.MaxInt), api.ErrTree}, {0, node(math.MinInt), api.ErrTree},
		{1, node(3, node(2), node(9), node(2)), api.ErrTree},
		// a leaf where a node is asked for, and a node in a leaf's place
		{0, leaf('1'), api.ErrTree}, {0, leaf(0), api.ErrTree}, {0, api.Tree{Rule: -1, Kids: []api.Tree{one}}, api.ErrTree},
		{0, node(0, leaf('1'), leaf('+'), one), api.ErrTree}, {0, node(1, one), api.ErrTree}, {0, node(1, node(1)), api.ErrTree},
		// bytes that are not in the Set
		{0, node(1, leaf('x')), api.ErrTree}, {0, node(0, one, leaf('-'), one), api.ErrTree}, {3, node(6, leaf('!')), api.ErrTree}, {3, node(6, leaf(0)), api.ErrTree},
		// too few kids, too many
		{0, node(1), api.ErrTree}, {0, node(1, leaf('1'), leaf('1')), api.ErrTree}, {0, node(0, one, leaf('+')), api.ErrTree}, {0, node(0), api.ErrTree}, {1, node(2, node(2)), api.ErrTree},
		// what is not plain
		{0, node(1, odd(-1, '1', leaf('2'))), api.ErrTree}, {0, odd(1, 1, leaf('1')), api.ErrTree}, {0, node(0, one, leaf('+'), odd(1, 255, leaf('1'))), api.ErrTree}, {1, odd(2, 7), api.ErrTree},
		// no nonterminal
		{-1, one, api.ErrArg}, {4, one, api.ErrArg}, {math.MinInt, one, api.ErrArg}, {math.MaxInt, node(99), api.ErrArg}, {-1, leaf('1'), api.ErrArg},
	} {
		if have := Right(sum(), c.nt, c.tree); have != c.want {
			t.Errorf("%d, %s: %d, not %d", c.nt, all(c.tree), have, c.want)
		}
	}
}

// A grammar that is not right is told ahead of all else; Start is of no matter.
func TestRightOfGrams(t *testing.T) {
	for i, g := range []api.Gram{{}, {Nts: -1}, {Nts: api.MaxNts + 1}, {Nts: 1, Start: 1}, gram(1, "B>a"), gram(1, "A>B"), gram(1, "A>"+strings.Repeat("a", api.MaxRhs+1)),
		{Nts: 1, Rules: []api.Rule{{Rhs: []api.KSym{{Nt: -2}}}}}, {Nts: 1, Rules: []api.Rule{{Rhs: []api.KSym{{Set: charset.Of('a')}}}}}} {
		for _, nt := range []int{-1, 0, 1, 9} {
			for _, tree := range []api.Tree{{}, leaf('a'), node(0, leaf('a'))} {
				if have := Right(g, nt, tree); have != api.ErrForm {
					t.Errorf("grammar %d, %d, %s: %d", i, nt, all(tree), have)
				}
			}
		}
	}
	g := sum()
	for g.Start = range g.Nts {
		if have := Right(g, 0, node(1, leaf('7'))); have != api.OK {
			t.Errorf("Start %d: %d", g.Start, have)
		}
	}
	if have := Right(api.Gram{Nts: 1}, 0, api.Tree{}); have != api.ErrTree {
		t.Errorf("a tree of no rules: %d", have)
	}
	wide := api.Gram{Nts: 1, Rules: []api.Rule{{Rhs: slices.Repeat([]api.KSym{sign('a')}, api.MaxRhs)}}}
	if have := Right(wide, 0, node(0, slices.Repeat([]api.Tree{leaf('a')}, api.MaxRhs)...)); have != api.OK {
		t.Errorf("%d kids: %d", api.MaxRhs, have)
	}
}

// A yield may be longer than an input, and a tree deeper than a text can have it.
func TestRightOfGreatTrees(t *testing.T) {
	g := gram(1, "A>A", "A>aA", "A>")
	tree := node(2)
	for range 3 * api.MaxInput {
		tree = node(1, leaf('a'), node(0, tree))
	}
	if have := Right(g, 0, tree); have != api.OK {
		t.Error(have)
	}
	if n := len(Yield(tree)); n != 3*api.MaxInput {
		t.Error(n)
	}
}

// What is told of a tree.
type told struct {
	yield      string
	size, deep int
	spans      string
}

func tell(tree api.Tree) told {
	size, deep := Size(tree)
	var spans []string
	for _, s := range Spans(tree) {
		spans = append(spans, fmt.Sprintf("%d-%d", s.Lo, s.Hi))
	}
	return told{string(Yield(tree)), size, deep, strings.Join(spans, " ")}
}

// P9.2: of any trees, plain or not.
func TestTold(t *testing.T) {
	for _, c := range []struct {
		tree api.Tree
		want told
	}{
		{example(), told{"1+2", 5, 3, "0-3 0-1 1-2 2-3 2-3"}},
		{node(3), told{"", 1, 1, "0-0"}},
		{api.Tree{}, told{"", 1, 1, "0-0"}},
		{leaf('a'), told{"a", 1, 1, "0-1"}}, {leaf(0), told{"\x00", 1, 1, "0-1"}}, {leaf(255), told{"\xff", 1, 1, "0-1"}},
		{node(5, leaf('a'), node(6), leaf('b'), node(7, node(8)), leaf('c')), told{"abc", 7, 3, "0-3 0-1 1-1 1-2 2-2 2-2 2-3"}},
		{node(5, node(6, node(7, leaf('a')), node(8)), node(9), leaf('b')), told{"ab", 7, 4, "0-2 0-1 0-1 0-1 1-1 1-1 1-2"}},
		// a node's Byte is not yielded, whatever its Rule
		{odd(5, 'x', leaf('a')), told{"a", 2, 2, "0-1 0-1"}}, {odd(-2, 'x'), told{"", 1, 1, "0-0"}}, {odd(1<<40, 'x', leaf('b'), odd(-9, 'y')), told{"b", 3, 2, "0-1 0-1 1-1"}},
		// the Kids of a leaf: of no bytes, at the leaf's end, and so are theirs
		{odd(-1, 'a', leaf('b')), told{"a", 2, 2, "0-1 1-1"}},
		{odd(-1, 'a', leaf('b'), node(3, leaf('c'), odd(-1, 'd', leaf('e'))), leaf('f')), told{"a", 7, 4, "0-1 1-1 1-1 1-1 1-1 1-1 1-1"}},
		{node(1, leaf('a'), odd(-1, 'b', leaf('x'), node(2, leaf('y'))), leaf('c')), told{"abc", 7, 4, "0-3 0-1 1-2 2-2 2-2 2-2 2-3"}},
		{node(1, odd(-1, 'a', odd(-1, 'b', leaf('c')), leaf('d')), node(2, leaf('e'))), told{"ae", 7, 4, "0-2 0-1 1-1 1-1 1-1 1-2 1-2"}},
		{node(1, odd(-1, 'a', leaf('x')), odd(-1, 'b', leaf('y'))), told{"ab", 5, 3, "0-2 0-1 1-1 1-2 2-2"}},
		{node(1, node(2, node(3, odd(-1, 'a', leaf('x')))), leaf('b')), told{"ab", 6, 5, "0-2 0-1 0-1 0-1 1-1 1-2"}},
		{node(1, node(2, odd(-1, 'a', node(3, node(4, leaf('x'))))), node(5, node(6, leaf('b')))), told{"ab", 9, 6, "0-2 0-1 0-1 1-1 1-1 1-1 1-2 1-2 1-2"}},
	} {
		if have := tell(c.tree); have != c.want {
			t.Errorf("%s:\n%+v\n, not\n%+v", all(c.tree), have, c.want)
		}
	}
}

// P9.2: each field tells trees apart, and nothing else does.
func TestSame(t *testing.T) {
	list := []api.Tree{{}, node(1), node(-2), leaf(0), leaf(1), odd(0, 1), odd(1, 1), node(0, api.Tree{}), node(0, node(1)), node(0, leaf(0)), node(0, api.Tree{}, api.Tree{}), node(0, node(0, api.Tree{})),
		odd(-1, 0, api.Tree{}), odd(-1, 0, leaf(0)), example(), node(0, leaf(49), leaf(43), node(1, leaf(51))), node(0, leaf(49), leaf(43), node(2, leaf(50))), node(0, leaf(49), node(1, leaf(50)), leaf(43))}
	for i, a := range list {
		for j, b := range list {
			if Same(a, b) != (i == j) {
				t.Errorf("%s, %s: %v", all(a), all(b), Same(a, b))
			}
		}
	}
	empty := api.Tree{Rule: 4, Kids: []api.Tree{{Rule: 5, Kids: []api.Tree{}}, {Rule: -1, Kids: make([]api.Tree, 0, 7)}}}
	if none := node(4, node(5), leaf(0)); !Same(empty, none) || !Same(none, empty) {
		t.Error("an empty list is not nil")
	}
	if !Same(example(), example()) || !Same(odd(-1, 3, odd(7, 8)), odd(-1, 3, odd(7, 8))) {
		t.Error("the same trees are not")
	}
}

// Trees as deep as may be given, and deeper.
func TestDeepTrees(t *testing.T) {
	g := gram(1, "A>A", "A>a")
	for _, deep := range []int{1 << 16, 1 << 20} {
		tree := tower(deep-1, node(1, leaf('a')))
		size, have := Size(tree)
		spans := Spans(tree)
		if size != deep || have != deep || len(spans) != deep || spans[0] != (api.Run{Hi: 1}) || spans[deep-1] != (api.Run{Hi: 1}) || string(Yield(tree)) != "a" {
			t.Errorf("%d deep: %d parts, %d deep, %d spans", deep, size, have, len(spans))
		}
		if Right(g, 0, tree) != api.OK || Right(g, 0, tower(deep, leaf('a'))) != api.ErrTree {
			t.Errorf("Right of %d", deep)
		}
		path := make([]int, deep-1)
		last, e1 := At(tree, path)
		more, e2 := Put(tree, path, node(7, leaf('b')))
		if _, e3 := At(tree, make([]int, deep)); e1 != api.OK || e2 != api.OK || e3 != api.ErrNone || !Same(last, leaf('a')) || Same(more, tree) || string(Yield(more)) != "b" {
			t.Errorf("%d deep: %d %d %d", deep, e1, e2, e3)
		}
		if _, code := Print(tree); code != api.ErrTree || !Same(tree, tree) {
			t.Errorf("Print of %d: %d", deep, code)
		}
	}
}

// Trees of a definition's texts are right, and have them as their yields.
func TestDefinition(t *testing.T) {
	d, fault := defs.Parse(`start E; layout W; cf E.Add = E "+" E; cf E.Num = N; lex N = [0-9]+; lex W = [\s];`)
	k, code := kernel.Make(d)
	if fault.Code != api.OK || code != api.OK {
		t.Fatal(fault, code)
	}
	for _, w := range []string{"1", " 12 ", "1+2+3", "1 + 2+3 +4"} {
		list, code := forest.Trees(k.Gram, []byte(w), 50)
		if code != api.OK || len(list) == 0 {
			t.Fatalf("%q: %d trees, %d", w, len(list), code)
		}
		for _, tree := range list {
			if code := Right(k.Gram, k.Gram.Start, tree); code != api.OK || string(Yield(tree)) != w {
				t.Errorf("%q: %q, %d", w, Yield(tree), code)
			}
			if code := Right(k.Gram, 0, tree); code != api.ErrTree {
				t.Errorf("%q of E: %d", w, code)
			}
		}
	}
}
