package filter

import (
	"fmt"
	"math"
	"slices"
	"strings"
	"testing"

	"tracery/api"
	"tracery/charset"
	"tracery/forest"
)

// gram is a grammar of rules like `A>AaB`: great letters are nonterminals, A being 0 and Start; `!` is a symbol of an empty set, `#` a digit, any other sign its byte.
func gram(nts int, rules ...string) api.Gram {
	g := api.Gram{Nts: nts}
	for _, text := range rules {
		r := api.Rule{Lhs: int(text[0] - 'A')}
		for _, c := range []byte(text[2:]) {
			r.Rhs = append(r.Rhs, sign(c))
		}
		g.Rules = append(g.Rules, r)
	}
	return g
}

func sign(c byte) api.KSym {
	switch {
	case c == '!':
		return api.KSym{Nt: -1}
	case c == '#':
		return api.KSym{Nt: -1, Set: charset.Of([]byte("0123456789")...)}
	case 'A' <= c && c <= 'Z':
		return api.KSym{Nt: int(c - 'A')}
	}
	return api.KSym{Nt: -1, Set: charset.Of(c)}
}

func sum() api.Gram { return gram(1, "A>A+A", "A>#") }

func bans(list ...api.Ban) api.Filters { return api.Filters{Bans: list} }

func ban(rule, pos, kid int) api.Ban { return api.Ban{Rule: rule, Pos: pos, Kid: kid} }

// follow is Follow of nonterminals, each with the bytes of a text.
func follow(list ...string) api.Filters {
	var f api.Filters
	for _, text := range list {
		f.Follow = append(f.Follow, charset.Of([]byte(text)...))
	}
	return f
}

func reject(list ...int) api.Filters { return api.Filters{Reject: list} }

// treeText is a tree's rules in digits with its kids in brackets, bytes as they are; what a tree may not have is written too.
func treeText(t api.Tree) string {
	if t.Rule == -1 && len(t.Kids) == 0 {
		return string([]byte{t.Byte})
	}
	text := fmt.Sprint(t.Rule)
	if t.Byte != 0 {
		text += fmt.Sprintf("!%d!", t.Byte)
	}
	text += "("
	for _, kid := range t.Kids {
		text += treeText(kid)
	}
	return text + ")"
}

func treeTexts(list []api.Tree) string {
	var texts []string
	for _, t := range list {
		texts = append(texts, treeText(t))
	}
	return strings.Join(texts, " ")
}

// nodeText is `nt from-to[bans]` or `rule.dot from-to`, and each way as `rule@mid left right`.
func nodeText(n api.FNode) string {
	text := fmt.Sprintf("%d.%d", n.Rule, n.Dot)
	if n.Nt != -1 {
		text = fmt.Sprintf("%d", n.Nt)
		if n.Rule != -1 || n.Dot != -1 {
			text += fmt.Sprintf("!%d.%d!", n.Rule, n.Dot)
		}
	}
	text += fmt.Sprintf(" %d-%d", n.From, n.To)
	if len(n.Ban) > 0 {
		text += fmt.Sprint(n.Ban)
	}
	text += ":"
	for _, a := range n.Alts {
		text += fmt.Sprintf(" %d@%d %d %d,", a.Rule, a.Mid, a.Left, a.Right)
	}
	return strings.TrimSuffix(text, ",")
}

// forestText is a forest's Root and nodes, a line each.
func forestText(f api.Forest) string {
	text := fmt.Sprint(f.Root)
	for _, n := range f.Nodes {
		text += "\n" + nodeText(n)
	}
	return text
}

type told struct {
	forest string
	count  int
	trees  string
}

func tell(t *testing.T, g api.Gram, f api.Filters, w string, most int) told {
	t.Helper()
	x, e1 := Build(g, f, []byte(w))
	n, e2 := Count(g, f, []byte(w))
	list, e3 := Trees(g, f, []byte(w), most)
	if e1 != api.OK || e2 != api.OK || e3 != api.OK {
		t.Fatalf("%+v, %+v, %q is refused: %d %d %d", g, f, w, e1, e2, e3)
	}
	return told{forestText(x), n, treeTexts(list)}
}

var none = told{"-1", 0, ""}

// two has a nonterminal D that stands over the same text in the places of B and of C.
func two() api.Gram { return gram(4, "A>B", "A>C", "B>D", "C>D", "D>d", "D>d") }

// P10.2, P10.7: forests, in the order of their numbers, and trees.
func TestTold(t *testing.T) {
	for _, c := range []struct {
		g    api.Gram
		f    api.Filters
		w    string
		want told
	}{
		// the chapter's example
		{sum(), bans(ban(0, 2, 0)), "1+1+1", told{"0\n0 0-5: 0@0 1 -1\n0.3 0-5: 0@4 2 3\n0.2 0-4: 0@3 4 -1\n0 4-5[0]: 1@0 5 -1\n0.1 0-3: 0@0 -1 6\n1.1 4-5: 1@4 -1 -1\n0 0-3: 0@0 7 -1\n0.3 0-3: 0@2 8 9\n0.2 0-2: 0@1 10 -1\n0 2-3[0]: 1@0 11 -1\n0.1 0-1: 0@0 -1 12\n1.1 2-3: 1@2 -1 -1\n0 0-1: 1@0 13 -1\n1.1 0-1: 1@0 -1 -1",
			1, "0(0(1(1)+1(1))+1(1))"}},
		{sum(), bans(ban(0, 0, 0), ban(0, 2, 0)), "1+1", told{"0\n0 0-3: 0@0 1 -1\n0.3 0-3: 0@2 2 3\n0.2 0-2: 0@1 4 -1\n0 2-3[0]: 1@0 5 -1\n0.1 0-1: 0@0 -1 6\n1.1 2-3: 1@2 -1 -1\n0 0-1[0]: 1@0 7 -1\n1.1 0-1: 1@0 -1 -1", 1, "0(1(1)+1(1))"}},
		{sum(), bans(ban(0, 0, 0), ban(0, 2, 0)), "1+1+1", none},
		// nodes that differ in their Ban alone, and nodes that do not
		{two(), bans(ban(2, 0, 4)), "d", told{"0\n0 0-1: 0@0 1 -1, 1@0 2 -1\n0.1 0-1: 0@0 -1 3\n1.1 0-1: 1@0 -1 4\n1 0-1: 2@0 5 -1\n2 0-1: 3@0 6 -1\n2.1 0-1: 2@0 -1 7\n3.1 0-1: 3@0 -1 8\n3 0-1[4]: 5@0 9 -1\n3 0-1: 4@0 10 -1, 5@0 9 -1\n5.1 0-1: 5@0 -1 -1\n4.1 0-1: 4@0 -1 -1",
			3, "0(2(5(d))) 1(3(4(d))) 1(3(5(d)))"}},
		{two(), bans(ban(3, 0, 4), ban(2, 0, 4)), "d", told{"0\n0 0-1: 0@0 1 -1, 1@0 2 -1\n0.1 0-1: 0@0 -1 3\n1.1 0-1: 1@0 -1 4\n1 0-1: 2@0 5 -1\n2 0-1: 3@0 6 -1\n2.1 0-1: 2@0 -1 7\n3.1 0-1: 3@0 -1 7\n3 0-1[4]: 5@0 8 -1\n5.1 0-1: 5@0 -1 -1",
			2, "0(2(5(d))) 1(3(5(d)))"}},
		{two(), bans(ban(2, 0, 5), ban(3, 0, 4)), "d", told{"0\n0 0-1: 0@0 1 -1, 1@0 2 -1\n0.1 0-1: 0@0 -1 3\n1.1 0-1: 1@0 -1 4\n1 0-1: 2@0 5 -1\n2 0-1: 3@0 6 -1\n2.1 0-1: 2@0 -1 7\n3.1 0-1: 3@0 -1 8\n3 0-1[5]: 4@0 9 -1\n3 0-1[4]: 5@0 10 -1\n4.1 0-1: 4@0 -1 -1\n5.1 0-1: 5@0 -1 -1",
			2, "0(2(4(d))) 1(3(5(d)))"}},
		// nodes without ways, and the ways to them
		{two(), bans(ban(2, 0, 5), ban(2, 0, 4)), "d", told{"0\n0 0-1: 1@0 1 -1\n1.1 0-1: 1@0 -1 2\n2 0-1: 3@0 3 -1\n3.1 0-1: 3@0 -1 4\n3 0-1: 4@0 5 -1, 5@0 6 -1\n4.1 0-1: 4@0 -1 -1\n5.1 0-1: 5@0 -1 -1", 2, "1(3(4(d))) 1(3(5(d)))"}},
		{two(), bans(ban(2, 0, 5), ban(2, 0, 4), ban(1, 0, 3)), "d", none},
		// bans of a place where a leaf stands, of rules of other nonterminals, told twice, in any order
		{sum(), bans(ban(0, 1, 0), ban(0, 1, 1), ban(1, 0, 0), ban(1, 0, 1)), "1", told{"0\n0 0-1: 1@0 1 -1\n1.1 0-1: 1@0 -1 -1", 1, "1(1)"}},
		{two(), bans(ban(2, 0, 3), ban(2, 0, 2), ban(0, 0, 4), ban(2, 0, 0)), "d", told{"0\n0 0-1: 0@0 1 -1, 1@0 2 -1\n0.1 0-1: 0@0 -1 3\n1.1 0-1: 1@0 -1 4\n1 0-1: 2@0 5 -1\n2 0-1: 3@0 6 -1\n2.1 0-1: 2@0 -1 7\n3.1 0-1: 3@0 -1 7\n3 0-1: 4@0 8 -1, 5@0 9 -1\n4.1 0-1: 4@0 -1 -1\n5.1 0-1: 5@0 -1 -1",
			4, "0(2(4(d))) 0(2(5(d))) 1(3(4(d))) 1(3(5(d)))"}},
		{gram(2, "A>B", "B>b", "B>b", "B>b", "B>x"), bans(ban(0, 0, 4), ban(0, 0, 2), ban(0, 0, 4), ban(0, 0, 0), ban(0, 0, 2), ban(0, 0, 3)), "b", told{"0\n0 0-1: 0@0 1 -1\n0.1 0-1: 0@0 -1 2\n1 0-1[2 3 4]: 1@0 3 -1\n1.1 0-1: 1@0 -1 -1", 1, "0(1(b))"}},
		// a byte behind a node, and none
		{gram(2, "A>Bb", "A>B", "B>b", "B>bb"), follow("", "b"), "bb", told{"0\n0 0-2: 1@0 1 -1\n1.1 0-2: 1@0 -1 2\n1 0-2: 3@0 3 -1\n3.2 0-2: 3@1 4 -1\n3.1 0-1: 3@0 -1 -1", 1, "1(3(bb))"}},
		{gram(2, "A>B", "B>b"), follow("b", "b"), "b", told{"0\n0 0-1: 0@0 1 -1\n0.1 0-1: 0@0 -1 2\n1 0-1: 1@0 3 -1\n1.1 0-1: 1@0 -1 -1", 1, "0(1(b))"}},
		{sum(), follow("+"), "1+1", none}, {sum(), follow("0123456789"), "1+1", told{"0\n0 0-3: 0@0 1 -1\n0.3 0-3: 0@2 2 3\n0.2 0-2: 0@1 4 -1\n0 2-3: 1@0 5 -1\n0.1 0-1: 0@0 -1 6\n1.1 2-3: 1@2 -1 -1\n0 0-1: 1@0 7 -1\n1.1 0-1: 1@0 -1 -1", 1, "0(1(1)+1(1))"}},
		{gram(2, "A>Bb", "B>"), follow("", "b"), "b", none}, // a node of no bytes has a byte behind it too
		{gram(2, "A>bB", "B>"), follow("", "b"), "b", told{"0\n0 0-1: 0@0 1 -1\n0.2 0-1: 0@1 2 3\n0.1 0-1: 0@0 -1 -1\n1 1-1: 1@0 -1 -1", 1, "0(b1())"}},
		// what rejects: -1, another one, itself, what is nullable, and whatever the filters
		{gram(2, "A>b", "B>b"), reject(-1, -1), "b", told{"0\n0 0-1: 0@0 1 -1\n0.1 0-1: 0@0 -1 -1", 1, "0(b)"}},
		{gram(2, "A>b", "B>b"), reject(1), "b", none}, {gram(2, "A>b", "B>c"), reject(1), "b", told{"0\n0 0-1: 0@0 1 -1\n0.1 0-1: 0@0 -1 -1", 1, "0(b)"}},
		{gram(1, "A>b"), reject(0), "b", none}, {gram(2, "A>b", "B>"), reject(1), "b", told{"0\n0 0-1: 0@0 1 -1\n0.1 0-1: 0@0 -1 -1", 1, "0(b)"}}, {gram(2, "A>", "B>"), reject(1), "", none},
		{gram(2, "A>b", "B>b"), reject(1, 1), "b", none}, {gram(3, "A>Bc", "B>b", "C>b"), api.Filters{Reject: []int{-1, 2}, Follow: []api.Set{2: charset.Of('c')}}, "bc", none}, {gram(4, "A>b", "B>D", "D>b"), api.Filters{Reject: []int{1}, Bans: []api.Ban{{Rule: 1, Kid: 2}}}, "b", none},
		{gram(3, "A>bB", "B>", "C>"), reject(-1, 2), "b", none}, {gram(3, "A>bB", "B>", "B>c", "C>"), reject(-1, 2), "bc", told{"0\n0 0-2: 0@0 1 -1\n0.2 0-2: 0@1 2 3\n0.1 0-1: 0@0 -1 -1\n1 1-2: 2@0 4 -1\n2.1 1-2: 2@1 -1 -1", 1, "0(b2(c))"}},
	} {
		if have := tell(t, c.g, c.f, c.w, api.MaxTrees); have != c.want {
			t.Errorf("%+v, %+v, %q:\n%+v\n, not\n%+v", c.g, c.f, c.w, have, c.want)
		}
	}
}

// wrongGrams are not right.
func wrongGrams() []api.Gram {
	return []api.Gram{{}, {Nts: -1}, {Nts: api.MaxNts + 1}, {Nts: 1, Start: 1}, {Nts: 1, Start: -1}, gram(1, "A>"+strings.Repeat("a", api.MaxRhs+1)), gram(1, slices.Repeat([]string{"A>a"}, api.MaxRules+1)...),
		gram(1, "B>a"), gram(1, "A>B"), gram(1, "A>A", "B>"), {Nts: 1, Rules: []api.Rule{{Lhs: -1}}}, {Nts: 1, Rules: []api.Rule{{Rhs: []api.KSym{{Nt: -2}}}}}, {Nts: 1, Rules: []api.Rule{{Rhs: []api.KSym{{Set: charset.Of('a')}}}}}}
}

// three has three nonterminals, rules of no symbols, of one and of three.
func three() api.Gram { return gram(3, "A>AbB", "A>C", "B>", "C>b", "B>c") }

// wrongFilters are not right for three.
func wrongFilters() []api.Filters {
	list := []api.Filters{
		{Follow: make([]api.Set, 4)}, {Follow: make([]api.Set, 5000)}, {Reject: []int{-1, -1, -1, -1}}, {Reject: make([]int, 4)},
		bans(ban(0, 3, 0)), bans(ban(1, 1, 0)), bans(ban(2, 0, 0)), bans(ban(2, -1, 0)), // no symbol of the rule
		bans(ban(0, 0, 0), ban(0, 2, 4), ban(0, 0, 5)), bans(ban(0, 0, 0), ban(5, 0, 0), ban(0, 1, 1)),
	}
	for _, n := range []int{-1, -2, 5, 6, math.MinInt, math.MaxInt} {
		list = append(list, bans(ban(n, 0, 0)), bans(ban(0, 0, n)), bans(ban(0, n, 0)), bans(ban(n, n, n)))
	}
	for _, by := range []int{-2, 3, 4, math.MinInt, math.MaxInt} {
		list = append(list, reject(by), reject(-1, by), reject(0, 1, by))
	}
	return list
}

// P10.1: filters that are right, and filters that are not.
func TestRight(t *testing.T) {
	for i, f := range []api.Filters{
		{}, {Bans: []api.Ban{}, Follow: []api.Set{}, Reject: []int{}}, follow("x"), follow("x", "", "y"), reject(-1), reject(2), reject(0, 1, 2), reject(-1, -1, -1),
		bans(ban(0, 0, 0)), bans(ban(0, 2, 4)), bans(ban(0, 1, 3), ban(1, 0, 2), ban(1, 0, 2)), bans(ban(3, 0, 0)), bans(ban(4, 0, 4)),
		{Bans: []api.Ban{ban(0, 0, 0), ban(9, 9, 9)}[:1], Follow: make([]api.Set, 9)[:3], Reject: []int{0, 1, 2, 9}[:3]},
	} {
		if have := Right(three(), f); have != api.OK {
			t.Errorf("filters %d: %d", i, have)
		}
	}
	for i, f := range wrongFilters() {
		if have := Right(three(), f); have != api.ErrForm {
			t.Errorf("%d, %+v: %d", i, f, have)
		}
	}
	for i, g := range wrongGrams() {
		for _, f := range append(wrongFilters(), api.Filters{}, follow("x")) {
			if have := Right(g, f); have != api.ErrForm {
				t.Errorf("grammar %d, %+v: %d", i, f, have)
			}
		}
	}
	if have := Right(api.Gram{Nts: 1}, bans(ban(0, 0, 0))); have != api.ErrForm {
		t.Errorf("a ban without rules: %d", have)
	}
	if have := Right(gram(1, "A>A"), bans(ban(0, 0, 0))); have != api.OK {
		t.Errorf("a cyclic grammar: %d", have)
	}
	most := api.Gram{Nts: api.MaxNts}
	if have := Right(most, api.Filters{Follow: make([]api.Set, api.MaxNts), Reject: make([]int, api.MaxNts)}); have != api.OK {
		t.Errorf("%d members: %d", api.MaxNts, have)
	}
}

// refusedBy is the error of Build, Count and Trees, with nothing beside it; -1, if they differ.
func refusedBy(g api.Gram, f api.Filters, w []byte, most int) api.Errno {
	x, e1 := Build(g, f, w)
	n, e2 := Count(g, f, w)
	list, e3 := Trees(g, f, w, most)
	if x.Root != 0 || len(x.Nodes) > 0 || n != 0 || len(list) > 0 || e1 != e2 || e2 != e3 {
		return -1
	}
	return e1
}

// P10.2: which error comes first.
func TestRefused(t *testing.T) {
	cyclic := []api.Gram{gram(3, "A>A", "A>b", "B>", "C>b", "B>c"), gram(3, "A>BAB", "B>", "A>a", "C>b", "B>c"), gram(3, "A>a", "B>C", "C>B", "A>b", "B>c")}
	for _, most := range []int{math.MinInt, -1, 0, 5, api.MaxTrees, api.MaxTrees + 1, math.MaxInt} {
		for _, n := range []int{0, 1, api.MaxInput, api.MaxInput + 1, 2 * api.MaxInput} {
			w := make([]byte, n)
			for i, g := range wrongGrams() {
				if code := refusedBy(g, bans(ban(-1, 0, 0)), w, most); code != api.ErrForm || refusedBy(g, api.Filters{}, w, most) != code {
					t.Errorf("grammar %d, %d bytes, most %d: %d", i, n, most, code)
				}
			}
			for _, g := range append(cyclic, three()) {
				for i, f := range wrongFilters()[:4] {
					if code := refusedBy(g, f, w, most); code != api.ErrForm {
						t.Errorf("filters %d, %d bytes, most %d: %d", i, n, most, code)
					}
				}
			}
			want := api.ErrCycle
			if n > api.MaxInput {
				want = api.ErrLong
				if code := refusedBy(three(), follow("b"), w, most); code != want {
					t.Errorf("%d bytes, most %d: %d", n, most, code)
				}
			}
			for _, g := range cyclic {
				if code := refusedBy(g, reject(-1, 1, 2), w, most); code != want {
					t.Errorf("%+v, %d bytes, most %d: %d, not %d", g, n, most, code, want)
				}
			}
		}
	}
	for _, f := range wrongFilters() {
		if code := refusedBy(three(), f, nil, 3); code != api.ErrForm {
			t.Errorf("%+v: %d", f, code)
		}
	}
	for _, most := range []int{math.MinInt, -1, api.MaxTrees + 1, math.MaxInt} {
		for _, w := range []string{"", "b", "x"} {
			if list, code := Trees(three(), follow("b"), []byte(w), most); code != api.ErrArg || len(list) > 0 {
				t.Errorf("%q, most %d: %v %d", w, most, list, code)
			}
		}
	}
}

// Follow and Reject with fewer members than nonterminals, and with as many.
func TestFewerMembers(t *testing.T) {
	g := gram(3, "A>BC", "A>CB", "B>b", "C>b", "C>x")
	for _, c := range []struct {
		f    api.Filters
		want string
	}{
		{api.Filters{}, "0(2(b)3(b)) 1(3(b)2(b))"}, {follow(), "0(2(b)3(b)) 1(3(b)2(b))"}, {follow("b"), "0(2(b)3(b)) 1(3(b)2(b))"},
		{follow("", "b"), "1(3(b)2(b))"}, {follow("b", "bx", "x"), "1(3(b)2(b))"}, {follow("", "", "b"), "0(2(b)3(b))"}, {follow("b", "b", "b"), ""},
		{reject(), "0(2(b)3(b)) 1(3(b)2(b))"}, {reject(2), "0(2(b)3(b)) 1(3(b)2(b))"}, {reject(-1, 0), "0(2(b)3(b)) 1(3(b)2(b))"}, {reject(-1, 2), ""}, {reject(0), ""}, {reject(-1, -1, 1), ""}, {reject(-1, -1, 0), "0(2(b)3(b)) 1(3(b)2(b))"},
		{api.Filters{Follow: make([]api.Set, 3), Reject: []int{-1, -1, -1}}, "0(2(b)3(b)) 1(3(b)2(b))"},
	} {
		if have := tell(t, g, c.f, "bb", 9); have.trees != c.want || have.count != len(strings.Fields(c.want)) {
			t.Errorf("%+v: %+v, not %s", c.f, have, c.want)
		}
	}
}

// P10.2: as many as are asked for, the same ones first.
func TestMost(t *testing.T) {
	g, f := gram(1, "A>AA", "A>a", "A>a"), bans(ban(0, 1, 0), ban(0, 1, 2)) // the first operand is one of two
	all := map[int][]api.Tree{}
	for _, most := range []int{0, 1, 2, 3, api.MaxTrees} {
		list, code := Trees(g, f, []byte("aaaaaa"), most)
		if code != api.OK || len(list) != min(most, 2) {
			t.Errorf("most %d: %d trees, %d", most, len(list), code)
		}
		all[most] = list
	}
	if have, want := treeTexts(all[api.MaxTrees]), "0(0(0(0(0(1(a)1(a))1(a))1(a))1(a))1(a)) 0(0(0(0(0(2(a)1(a))1(a))1(a))1(a))1(a))"; have != want {
		t.Errorf("%s, not %s", have, want)
	}
	for most, list := range all {
		if treeTexts(list) != treeTexts(all[api.MaxTrees][:len(list)]) {
			t.Errorf("the first %d are others", most)
		}
	}
	for _, n := range []int{9, 10, 11, 100} { // 512 and 1024 trees, and more
		list, code := Trees(g, bans(ban(0, 1, 0)), []byte(strings.Repeat("a", n)), api.MaxTrees)
		texts := map[string]int{}
		for _, tree := range list {
			texts[treeText(tree)]++
		}
		if want := min(1<<min(n, 20), api.MaxTrees); code != api.OK || len(list) != want || len(texts) != want {
			t.Errorf("%d bytes: %d trees, %d of them different, %d", n, len(list), len(texts), code)
		}
	}
}

// Counts at MaxCount, just below it and past it, by bans alone.
func TestCountStays(t *testing.T) {
	rules := []string{"A>C", "B>b", "B>b", "C>" + strings.Repeat("B", 61)} // 2 to the 61
	for k := range 61 {
		rules = append(rules, "C>"+strings.Repeat("B", k)+strings.Repeat("b", 61-k)) // and all less powers
	}
	last := len(rules)
	rules = append(rules, "C>"+strings.Repeat("b", 61), "C>"+strings.Repeat("b", 60)+"B")
	g := gram(3, rules...)
	w := []byte(strings.Repeat("b", 61))
	for i, c := range []struct {
		f    api.Filters
		want int
	}{
		{api.Filters{}, api.MaxCount}, {bans(ban(0, 0, last)), api.MaxCount}, {bans(ban(0, 0, last+1)), api.MaxCount}, {bans(ban(0, 0, last), ban(0, 0, last+1)), api.MaxCount - 1},
		{bans(ban(0, 0, last), ban(0, 0, 4)), api.MaxCount}, {bans(ban(0, 0, last), ban(0, 0, 4), ban(0, 0, last+1)), api.MaxCount - 2}, {bans(ban(0, 0, 3)), 1<<61 + 2},
		{bans(ban(3, 60, 1)), 1<<61 - 1 + 1<<60 + 3}, {bans(ban(3, 0, 1), ban(3, 1, 2), ban(3, 2, 1)), 1<<61 - 1 + 1<<58 + 3}, {bans(ban(3, 7, 1), ban(3, 7, 2)), 1<<61 + 2},
		{reject(-1, 1), 2}, {reject(-1, -1, 2), 0}, {follow("b"), api.MaxCount}, {follow("", "b"), 4}, // the last B has no byte behind it
	} {
		if n, code := Count(g, c.f, w); n != c.want || code != api.OK {
			t.Errorf("%d: %d, not %d (%d)", i, n, c.want, code)
		}
		if list, code := Trees(g, c.f, w, 7); len(list) != min(c.want, 7) || code != api.OK {
			t.Errorf("%d: %d trees (%d)", i, len(list), code)
		}
	}
	n, code := Count(gram(1, "A>AA", "A>a"), follow("x"), []byte(strings.Repeat("a", api.MaxInput)))
	if n != api.MaxCount || code != api.OK {
		t.Errorf("%d %d", n, code)
	}
}

// Another Start than nonterminal 0, rules in another order than their nonterminals.
func TestStart(t *testing.T) {
	g := gram(2, "A>a", "B>Ab", "A>a")
	g.Start = 1
	want := told{"0\n1 0-2: 1@0 1 -1\n1.2 0-2: 1@1 2 -1\n1.1 0-1: 1@0 -1 3\n0 0-1[0]: 2@0 4 -1\n2.1 0-1: 2@0 -1 -1", 1, "1(2(a)b)"}
	if have := tell(t, g, bans(ban(1, 0, 0)), "ab", 5); have != want {
		t.Errorf("%+v", have)
	}
	if have := tell(t, g, reject(-1, 1), "ab", 5); have != none {
		t.Errorf("%+v", have)
	}
}

// Bans of rules that are far apart are told apart.
func TestManyRules(t *testing.T) {
	rules := append([]string{"A>B", "A>C", "B>D", "C>D"}, slices.Repeat([]string{"D>d"}, api.MaxRules-4)...)
	g := gram(4, rules...)
	for _, kids := range [][2]int{{4, 260}, {5, 4101}, {255, 256}, {4, api.MaxRules - 1}, {300, 301}} {
		x, code := Build(g, bans(ban(2, 0, kids[0]), ban(3, 0, kids[1])), []byte("d"))
		var list []string
		for _, n := range x.Nodes {
			if n.Nt == 3 {
				list = append(list, fmt.Sprint(n.Ban, len(n.Alts)))
			}
		}
		if want := []string{fmt.Sprintf("[%d] %d", kids[0], api.MaxRules-5), fmt.Sprintf("[%d] %d", kids[1], api.MaxRules-5)}; code != api.OK || !slices.Equal(list, want) {
			t.Errorf("%v: %v %d", kids, list, code)
		}
	}
}

// The longest texts, as associativity has them.
func TestLongestText(t *testing.T) {
	const k = api.MaxInput / 2 // operands
	w := strings.Repeat("1+", k-1) + "1"
	left, right, both := bans(ban(0, 2, 0)), bans(ban(0, 0, 0)), bans(ban(0, 0, 0), ban(0, 2, 0))
	for i, c := range []struct {
		f     api.Filters
		count int
		first string
	}{
		{left, 1, strings.Repeat("0(", k-1) + "1(1)" + strings.Repeat("+1(1))", k-1)},
		{right, 1, strings.Repeat("0(1(1)+", k-1) + "1(1)" + strings.Repeat(")", k-1)},
		{api.Filters{}, api.MaxCount, strings.Repeat("0(1(1)+", k-1) + "1(1)" + strings.Repeat(")", k-1)},
		{both, 0, ""},
	} {
		n, e := Count(sum(), c.f, []byte(w))
		list, f := Trees(sum(), c.f, []byte(w), 1)
		if e != api.OK || f != api.OK || n != c.count || treeTexts(list) != c.first {
			t.Errorf("%d: %d %d, %d trees %d", i, n, e, len(list), f)
		}
		for _, tree := range list {
			if code := Ok(sum(), c.f, []byte(w), tree); code != api.OK {
				t.Errorf("%d: %d", i, code)
			}
		}
	}
	x, e := Build(sum(), left, []byte(w))
	if nodes, ways := forest.Size(x); e != api.OK || nodes != 6*k-4 || ways != nodes {
		t.Errorf("%d nodes, %d ways, %d", nodes, ways, e)
	}
	if n, e := Count(sum(), left, []byte(w+"+1")); n != 0 || e != api.ErrLong {
		t.Errorf("%d %d", n, e)
	}
}
