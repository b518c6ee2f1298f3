package forest

import (
	"fmt"
	"slices"
	"strings"
	"testing"

	"tracery/api"
	"tracery/charset"
	"tracery/defs"
	"tracery/facts"
	"tracery/kernel"
)

// gram is a grammar of rules like `A>AaB`: great letters are nonterminals, A being 0 and Start; `!` is a symbol of an empty set, `#` a digit, any other sign its byte.
func gram(nts int, rules ...string) api.Gram {
	g := api.Gram{Nts: nts}
	for _, text := range rules {
		r := api.Rule{Lhs: int(text[0] - 'A')}
		for _, c := range []byte(text[2:]) {
			r.Rhs = append(r.Rhs, sign(c))
		}
		g.Rules = append(g.Rules, r)
	}
	return g
}

func sign(c byte) api.KSym {
	switch {
	case c == '!':
		return api.KSym{Nt: -1}
	case c == '#':
		return api.KSym{Nt: -1, Set: charset.Of([]byte("0123456789")...)}
	case 'A' <= c && c <= 'Z':
		return api.KSym{Nt: int(c - 'A')}
	}
	return api.KSym{Nt: -1, Set: charset.Of(c)}
}

func sum() api.Gram { return gram(1, "A>A+A", "A>#") }

// treeText is a tree's rules in digits with its kids in brackets, bytes as they are; what a tree may not have is written too.
func treeText(t api.Tree) string {
	if t.Rule == -1 && len(t.Kids) == 0 {
		return string([]byte{t.Byte})
	}
	text := fmt.Sprint(t.Rule)
	if t.Byte != 0 {
		text += fmt.Sprintf("!%d!", t.Byte)
	}
	text += "("
	for _, kid := range t.Kids {
		text += treeText(kid)
	}
	return text + ")"
}

func treeTexts(list []api.Tree) string {
	var texts []string
	for _, t := range list {
		texts = append(texts, treeText(t))
	}
	return strings.Join(texts, " ")
}

// nodeText is `nt from-to` or `rule.dot from-to`, and each way as `rule@mid left right`.
func nodeText(n api.FNode) string {
	text := fmt.Sprintf("%d.%d", n.Rule, n.Dot)
	if n.Nt != -1 {
		text = fmt.Sprintf("%d", n.Nt)
		if n.Rule != -1 || n.Dot != -1 {
			text += fmt.Sprintf("!%d.%d!", n.Rule, n.Dot)
		}
	}
	text += fmt.Sprintf(" %d-%d:", n.From, n.To)
	if len(n.Ban) > 0 {
		text += fmt.Sprint(n.Ban)
	}
	for _, a := range n.Alts {
		text += fmt.Sprintf(" %d@%d %d %d,", a.Rule, a.Mid, a.Left, a.Right)
	}
	return strings.TrimSuffix(text, ",")
}

// forestText is a forest's Root and nodes, a line each.
func forestText(f api.Forest) string {
	text := fmt.Sprint(f.Root)
	for _, n := range f.Nodes {
		text += "\n" + nodeText(n)
	}
	return text
}

type told struct {
	forest string
	count  int
	trees  string
}

func tell(t *testing.T, g api.Gram, w string, most int) told {
	t.Helper()
	f, e1 := Build(g, []byte(w))
	n, e2 := Count(g, []byte(w))
	list, e3 := Trees(g, []byte(w), most)
	if e1 != api.OK || e2 != api.OK || e3 != api.OK {
		t.Fatalf("%+v, %q is refused: %d %d %d", g, w, e1, e2, e3)
	}
	return told{forestText(f), n, treeTexts(list)}
}

// P8.2: forests, in the order of their numbers, and trees.
func TestTold(t *testing.T) {
	for _, c := range []struct {
		g    api.Gram
		w    string
		want told
	}{
		{sum(), "1", told{"0\n0 0-1: 1@0 1 -1\n1.1 0-1: 1@0 -1 -1", 1, "1(1)"}},
		{sum(), "1+1", told{"0\n0 0-3: 0@0 1 -1\n0.3 0-3: 0@2 2 3\n0.2 0-2: 0@1 4 -1\n0 2-3: 1@0 5 -1\n0.1 0-1: 0@0 -1 6\n1.1 2-3: 1@2 -1 -1\n0 0-1: 1@0 7 -1\n1.1 0-1: 1@0 -1 -1", 1, "0(1(1)+1(1))"}},
		{sum(), "1+1+1", told{"0\n0 0-5: 0@0 1 -1\n0.3 0-5: 0@2 2 3, 0@4 4 5\n0.2 0-2: 0@1 6 -1\n0 2-5: 0@0 7 -1\n0.2 0-4: 0@3 8 -1\n0 4-5: 1@0 9 -1\n0.1 0-1: 0@0 -1 10\n0.3 2-5: 0@4 11 5\n0.1 0-3: 0@0 -1 12\n1.1 4-5: 1@4 -1 -1\n0 0-1: 1@0 13 -1\n0.2 2-4: 0@3 14 -1\n0 0-3: 0@0 15 -1\n1.1 0-1: 1@0 -1 -1\n0.1 2-3: 0@2 -1 16\n0.3 0-3: 0@2 2 16\n0 2-3: 1@0 17 -1\n1.1 2-3: 1@2 -1 -1",
			2, "0(1(1)+0(1(1)+1(1))) 0(0(1(1)+1(1))+1(1))"}},
		// no tree
		{sum(), "", told{"-1", 0, ""}},
		{sum(), "1+", told{"-1", 0, ""}},
		{gram(1), "", told{"-1", 0, ""}},
		{gram(1), "a", told{"-1", 0, ""}},
		{gram(2, "B>a"), "a", told{"-1", 0, ""}},
		{gram(1, "A>!"), "a", told{"-1", 0, ""}},
		{gram(1, "A>a"), "aa", told{"-1", 0, ""}},
		{gram(1, "A>aA"), "aa", told{"-1", 0, ""}},
		{gram(2, "A>B", "B>a"), "ba", told{"-1", 0, ""}},
		// the empty text, and rules without symbols
		{gram(1, "A>"), "", told{"0\n0 0-0: 0@0 -1 -1", 1, "0()"}},
		{gram(1, "A>", "A>a", "A>"), "", told{"0\n0 0-0: 0@0 -1 -1, 2@0 -1 -1", 2, "0() 2()"}},
		{gram(2, "A>BB", "B>"), "", told{"0\n0 0-0: 0@0 1 -1\n0.2 0-0: 0@0 2 3\n0.1 0-0: 0@0 -1 3\n1 0-0: 1@0 -1 -1", 1, "0(1()1())"}},
		{gram(2, "A>BaB", "B>"), "a", told{"0\n0 0-1: 0@0 1 -1\n0.3 0-1: 0@1 2 3\n0.2 0-1: 0@0 4 -1\n1 1-1: 1@0 -1 -1\n0.1 0-0: 0@0 -1 5\n1 0-0: 1@0 -1 -1", 1, "0(1()a1())"}},
		// several rules that are the same, and one node reached by several ways
		{gram(1, "A>a", "A>a"), "a", told{"0\n0 0-1: 0@0 1 -1, 1@0 2 -1\n0.1 0-1: 0@0 -1 -1\n1.1 0-1: 1@0 -1 -1", 2, "0(a) 1(a)"}},
		{gram(2, "A>B", "A>B", "B>b", "B>b"), "b", told{"0\n0 0-1: 0@0 1 -1, 1@0 2 -1\n0.1 0-1: 0@0 -1 3\n1.1 0-1: 1@0 -1 3\n1 0-1: 2@0 4 -1, 3@0 5 -1\n2.1 0-1: 2@0 -1 -1\n3.1 0-1: 3@0 -1 -1", 4, "0(2(b)) 0(3(b)) 1(2(b)) 1(3(b))"}},
		// the place up to which the others reach goes first, then their row, then the last kid
		{gram(2, "A>BB", "B>", "B>b", "B>bb", "B>b"), "b", told{"0\n0 0-1: 0@0 1 -1\n0.2 0-1: 0@0 2 3, 0@1 4 5\n0.1 0-0: 0@0 -1 6\n1 0-1: 2@0 7 -1, 4@0 8 -1\n0.1 0-1: 0@0 -1 3\n1 1-1: 1@0 -1 -1\n1 0-0: 1@0 -1 -1\n2.1 0-1: 2@0 -1 -1\n4.1 0-1: 4@0 -1 -1",
			4, "0(1()2(b)) 0(1()4(b)) 0(2(b)1()) 0(4(b)1())"}},
		{gram(1, "A>AA", "A>a", "A>a"), "aa", told{"0\n0 0-2: 0@0 1 -1\n0.2 0-2: 0@1 2 3\n0.1 0-1: 0@0 -1 4\n0 1-2: 1@0 5 -1, 2@0 6 -1\n0 0-1: 1@0 7 -1, 2@0 8 -1\n1.1 1-2: 1@1 -1 -1\n2.1 1-2: 2@1 -1 -1\n1.1 0-1: 1@0 -1 -1\n2.1 0-1: 2@0 -1 -1",
			4, "0(1(a)1(a)) 0(1(a)2(a)) 0(2(a)1(a)) 0(2(a)2(a))"}},
		// what leads nowhere has no node
		{gram(3, "A>aB", "A>aC", "A>ab", "B>bx", "C>!"), "ab", told{"0\n0 0-2: 2@0 1 -1\n2.2 0-2: 2@1 2 -1\n2.1 0-1: 2@0 -1 -1", 1, "2(ab)"}},
		// rules in another order than their nonterminals
		{gram(3, "C>c", "A>BC", "B>b", "A>bC", "B>"), "bc", told{"0\n0 0-2: 1@0 1 -1, 3@0 2 -1\n1.2 0-2: 1@1 3 4\n3.2 0-2: 3@1 5 4\n1.1 0-1: 1@0 -1 6\n2 1-2: 0@0 7 -1\n3.1 0-1: 3@0 -1 -1\n1 0-1: 2@0 8 -1\n0.1 1-2: 0@1 -1 -1\n2.1 0-1: 2@0 -1 -1", 2, "1(2(b)0(c)) 3(b0(c))"}},
	} {
		if have := tell(t, c.g, c.w, api.MaxTrees); have != c.want {
			t.Errorf("%+v, %q:\n%+v\n, not\n%+v", c.g, c.w, have, c.want)
		}
	}
}

// Another Start than nonterminal 0.
func TestStart(t *testing.T) {
	g := gram(2, "A>a", "B>Ab")
	g.Start = 1
	want := told{"0\n1 0-2: 1@0 1 -1\n1.2 0-2: 1@1 2 -1\n1.1 0-1: 1@0 -1 3\n0 0-1: 0@0 4 -1\n0.1 0-1: 0@0 -1 -1", 1, "1(0(a)b)"}
	if have := tell(t, g, "ab", 5); have != want {
		t.Errorf("%+v", have)
	}
}

// Bytes of all kinds stand in leaves as they are.
func TestBytes(t *testing.T) {
	g := api.Gram{Nts: 1, Rules: []api.Rule{{Rhs: slices.Repeat([]api.KSym{{Nt: -1, Set: charset.Not(api.Set{})}}, 4)}}}
	list, code := Trees(g, []byte{0, 255, 128, 10}, 9)
	if code != api.OK || len(list) != 1 || len(list[0].Kids) != 4 {
		t.Fatalf("%v %d", list, code)
	}
	for i, b := range []byte{0, 255, 128, 10} {
		if kid := list[0].Kids[i]; kid.Rule != -1 || kid.Byte != b || len(kid.Kids) > 0 {
			t.Errorf("kid %d is %v", i, kid)
		}
	}
}

// refusedBy is the error of Build, Count and Trees, with nothing beside it; -1, if they differ.
func refusedBy(g api.Gram, w []byte, most int) api.Errno {
	f, e1 := Build(g, w)
	n, e2 := Count(g, w)
	list, e3 := Trees(g, w, most)
	if f.Root != 0 || len(f.Nodes) > 0 || n != 0 || len(list) > 0 || e1 != e2 || e2 != e3 {
		return -1
	}
	return e1
}

// P8.1: which error comes first.
func TestRefused(t *testing.T) {
	long := gram(1, "A>"+strings.Repeat("a", api.MaxRhs+1))
	many := gram(1, slices.Repeat([]string{"A>a"}, api.MaxRules+1)...)
	wrong := []api.Gram{{}, {Nts: -1}, {Nts: api.MaxNts + 1}, {Nts: 1, Start: 1}, {Nts: 1, Start: -1}, long, many,
		gram(1, "B>a"), gram(1, "A>B"), gram(1, "A>A", "B>"), {Nts: 1, Rules: []api.Rule{{Lhs: -1}}}, {Nts: 1, Rules: []api.Rule{{Rhs: []api.KSym{{Nt: -2}}}}},
		{Nts: 1, Rules: []api.Rule{{Rhs: []api.KSym{{Set: charset.Of('a')}}}}}}
	cyclic := []api.Gram{gram(1, "A>A"), gram(1, "A>AA", "A>"), gram(2, "A>BAB", "B>", "A>a"), gram(3, "A>a", "B>C", "C>B"), gram(3, "A>B", "B>C", "C>A", "C>c")}
	for _, most := range []int{-1 << 63, -1, 0, 5, api.MaxTrees, api.MaxTrees + 1, 1<<63 - 1} {
		for _, n := range []int{0, 1, api.MaxInput, api.MaxInput + 1, 2 * api.MaxInput} {
			for i, g := range wrong {
				if code := refusedBy(g, make([]byte, n), most); code != api.ErrForm {
					t.Errorf("grammar %d, %d bytes, most %d: %d", i, n, most, code)
				}
			}
			want := api.ErrCycle
			if n > api.MaxInput {
				want = api.ErrLong
				if code := refusedBy(sum(), make([]byte, n), most); code != want {
					t.Errorf("%d bytes, most %d: %d", n, most, code)
				}
			}
			for _, g := range cyclic {
				if code := refusedBy(g, make([]byte, n), most); code != want {
					t.Errorf("%+v, %d bytes, most %d: %d, not %d", g, n, most, code, want)
				}
			}
		}
	}
	for _, most := range []int{-1 << 63, -1, api.MaxTrees + 1, 1<<63 - 1} {
		for _, w := range []string{"", "1", "x"} {
			if list, code := Trees(sum(), []byte(w), most); code != api.ErrArg || len(list) > 0 {
				t.Errorf("%q, most %d: %v %d", w, most, list, code)
			}
		}
	}
}

// P8.2, P8.6: as many as are asked for, the same ones first.
func TestMost(t *testing.T) {
	g := gram(1, "A>AA", "A>a")
	all := map[int][]api.Tree{}
	for _, most := range []int{0, 1, 2, 41, 42, 43, api.MaxTrees} {
		list, code := Trees(g, []byte("aaaaaa"), most)
		if code != api.OK || len(list) != min(most, 42) {
			t.Errorf("most %d: %d trees, %d", most, len(list), code)
		}
		all[most] = list
	}
	for most, list := range all {
		if treeTexts(list) != treeTexts(all[42][:len(list)]) {
			t.Errorf("the first %d are others", most)
		}
	}
	for _, n := range []int{11, 12, 100} { // 16796 and 58786 trees, and more than can be counted
		list, code := Trees(g, []byte(strings.Repeat("a", n)), api.MaxTrees)
		texts := map[string]int{}
		for _, tree := range list {
			texts[treeText(tree)]++
		}
		if code != api.OK || len(list) != api.MaxTrees || len(texts) != api.MaxTrees {
			t.Errorf("%d bytes: %d trees, %d of them different, %d", n, len(list), len(texts), code)
		}
	}
}

// powers has 2 to the n trees of n bytes, n at most MaxRhs.
func powers(n int) api.Gram { return gram(2, "A>"+strings.Repeat("B", n), "B>b", "B>b") }

// Counts at MaxCount, and just below and past it.
func TestCountStays(t *testing.T) {
	with := func(n int, rules ...string) api.Gram {
		g := powers(n)
		g.Rules = append(g.Rules, gram(2, rules...).Rules...)
		return g
	}
	var each []string // the powers of 2 from 0 to 61 in one sum
	for k := range 61 {
		each = append(each, "A>"+strings.Repeat("B", k)+strings.Repeat("b", 61-k))
	}
	var fourth []string // the powers of 4 from 0 to 30: a third of MaxCount - 1 trees
	for k := range 31 {
		fourth = append(fourth, "C>"+strings.Repeat("B", 2*k)+strings.Repeat("b", 60-2*k))
	}
	for i, c := range []struct {
		g    api.Gram
		n    int
		want int
	}{
		{gram(4, append(fourth, "A>CD", "B>b", "B>b", "D>b", "D>b", "D>b")...), 61, api.MaxCount - 1},
		{gram(4, append(fourth, "A>DC", "B>b", "B>b", "D>b", "D>b", "D>b", "D>b")...), 61, api.MaxCount},
		{powers(1), 1, 2}, {powers(10), 10, 1 << 10}, {powers(61), 61, 1 << 61}, {powers(62), 62, api.MaxCount}, {powers(63), 63, api.MaxCount}, {powers(64), 64, api.MaxCount}, {powers(80), 80, api.MaxCount},
		{with(61, "A>"+strings.Repeat("b", 61)), 61, 1<<61 + 1},
		{with(61, each...), 61, api.MaxCount - 1},
		{with(61, append(each, "A>"+strings.Repeat("b", 61))...), 61, api.MaxCount},
		{with(61, append(each, "A>"+strings.Repeat("b", 60)+"B")...), 61, api.MaxCount},
		{with(61, "A>"+strings.Repeat("B", 61)), 61, api.MaxCount},
		{with(62, "A>"+strings.Repeat("B", 62)), 62, api.MaxCount},
		{with(62, "A>"+strings.Repeat("b", 62)), 62, api.MaxCount},
		{with(80, slices.Repeat([]string{"A>" + strings.Repeat("B", 80)}, 20)...), 80, api.MaxCount},
	} {
		w := []byte(strings.Repeat("b", c.n))
		if n, code := Count(c.g, w); n != c.want || code != api.OK {
			t.Errorf("%d: %d, not %d (%d)", i, n, c.want, code)
		}
		if list, code := Trees(c.g, w, 7); len(list) != min(c.want, 7) || code != api.OK {
			t.Errorf("%d: %d trees (%d)", i, len(list), code)
		}
	}
}

// The last kid changes first, also where there are more rows than can be counted.
func TestFirstOfMany(t *testing.T) {
	list, code := Trees(powers(80), []byte(strings.Repeat("b", 80)), api.MaxTrees)
	if code != api.OK || len(list) != api.MaxTrees {
		t.Fatalf("%d trees, %d", len(list), code)
	}
	for rank, tree := range list {
		for i, kid := range tree.Kids {
			if bit := rank >> (79 - i) & 1; i < 70 && kid.Rule != 1 || i >= 70 && kid.Rule != 1+bit {
				t.Fatalf("tree %d has kid %d of rule %d", rank, i, kid.Rule)
			}
		}
	}
}

// Trees that are deeper than calls should be.
func TestDeepTrees(t *testing.T) {
	const nts, n = 300, 40
	g := api.Gram{Nts: nts}
	for nt := range nts - 1 {
		g.Rules = append(g.Rules, api.Rule{Lhs: nt, Rhs: []api.KSym{{Nt: nt + 1}}})
	}
	g.Rules = append(g.Rules, api.Rule{Lhs: nts - 1, Rhs: []api.KSym{sign('a'), {Nt: 0}, sign('c')}}, api.Rule{Lhs: nts - 1, Rhs: []api.KSym{sign('b')}})
	list, code := Trees(g, []byte(strings.Repeat("a", n)+"b"+strings.Repeat("c", n)), 2)
	if code != api.OK || len(list) != 1 {
		t.Fatalf("%d trees, %d", len(list), code)
	}
	tree := list[0]
	for level := range nts * (n + 1) {
		want := level % nts
		if want == nts-1 && level/nts == n {
			want = nts
		}
		if tree.Rule != want {
			t.Fatalf("rule %d at %d", tree.Rule, level)
		}
		switch {
		case want < nts-1:
			tree = tree.Kids[0]
		case want == nts-1:
			if treeText(tree.Kids[0]) != "a" || treeText(tree.Kids[2]) != "c" {
				t.Fatalf("leaves %v %v", tree.Kids[0], tree.Kids[2])
			}
			tree = tree.Kids[1]
		}
	}
	if treeText(tree.Kids[0]) != "b" {
		t.Errorf("%v", tree)
	}
}

// Size of any forest.
func TestSize(t *testing.T) {
	for i, c := range []struct {
		f           api.Forest
		nodes, ways int
	}{
		{api.Forest{}, 0, 0}, {api.Forest{Root: -1}, 0, 0}, {api.Forest{Root: 7, Nodes: []api.FNode{}}, 0, 0},
		{api.Forest{Root: -5, Nodes: make([]api.FNode, 3)}, 3, 0},
		{api.Forest{Nodes: []api.FNode{{Nt: -9, Alts: make([]api.Alt, 2)}, {Ban: []int{1, 2}}, {Alts: []api.Alt{{Left: 99, Right: -99}}}}}, 3, 3},
		{api.Forest{Nodes: []api.FNode{{Alts: make([]api.Alt, 9)[:4]}, {}, {}}[:2]}, 2, 4},
	} {
		if nodes, ways := Size(c.f); nodes != c.nodes || ways != c.ways {
			t.Errorf("%d: %d %d", i, nodes, ways)
		}
	}
	f, _ := Build(sum(), []byte("1+1+1"))
	if nodes, ways := Size(f); nodes != 18 || ways != 19 {
		t.Errorf("%d %d", nodes, ways)
	}
}

// A text of MaxInput bytes with as many trees as there are ways to put brackets.
func TestLongestText(t *testing.T) {
	g := sum()
	w := []byte(strings.Repeat("1+", api.MaxInput/2-1) + "1")
	n, e := Count(g, w)
	list, f := Trees(g, w, 1)
	if e != api.OK || f != api.OK || n != api.MaxCount || len(list) != 1 {
		t.Fatalf("%d %d, %d trees %d", n, e, len(list), f)
	}
	if want := strings.Repeat("0(1(1)+", api.MaxInput/2-1) + "1(1)" + strings.Repeat(")", api.MaxInput/2-1); treeText(list[0]) != want {
		t.Errorf("the first one is %s", treeText(list[0]))
	}
	x, e := Build(g, w)
	k := api.MaxInput / 2 // operands
	if nodes, ways := Size(x); e != api.OK || nodes != 2*k*k || nodes+ways > 4*facts.Size(g)*(len(w)+1)*(len(w)+1)*(len(w)+1) {
		t.Errorf("%d nodes, %d ways, %d", nodes, ways, e)
	}
	if n, e := Count(g, append(w, '+', '1')); n != 0 || e != api.ErrLong {
		t.Errorf("%d %d", n, e)
	}
}

// The grammar of a definition.
func TestDefinition(t *testing.T) {
	d, fault := defs.Parse(`start E; layout W; cf E.Add = E "+" E; cf E.Num = N; lex N = [0-9]+; lex W = [\s];`)
	k, code := kernel.Make(d)
	if fault.Code != api.OK || code != api.OK {
		t.Fatal(fault, code)
	}
	for w, want := range map[string]int{"1": 1, "12": 1, " 1 ": 1, "1 + 2": 1, "1+2+3": 2, "1+2+3 + 4": 5, "1+2+3+4+5": 14, "1 2": 0, "": 0} {
		if n, code := Count(k.Gram, []byte(w)); n != want || code != api.OK {
			t.Errorf("%q: %d, %d", w, n, code)
		}
	}
}
