package ast

import (
	"math/rand"
	"slices"
	"strconv"
	"testing"

	"tracery/api"
	"tracery/check"
	"tracery/forest"
	"tracery/kernel"
	"tracery/terms"
	"tracery/trees"
)

// byChance is a definition of a few sorts; most are right.
func byChance(r *rand.Rand) string {
	pick := func(list ...string) string { return list[r.Intn(len(list))] }
	text := `start ` + pick("E", "F") + `; cf E.A = "a"; lex N = "n"; lex M = "m"; cf F.B = "b"; lex W = " "; `
	if r.Intn(2) == 0 {
		text += `layout W; `
	}
	for i := range 1 + r.Intn(5) {
		text += "cf " + pick("E", "F") + ".C" + strconv.Itoa(i) + " = "
		for range 1 + r.Intn(6) {
			text += pick("E", "F", "E", "F", "N", "M", `"x"`, `"yz"`, "E?", "F?", "N?", "N*", "E*", "E+", "N+", `{F ","}+`, `{E ",;"}*`, `{N ","}*`) + " "
		}
		text += ";"
	}
	for range r.Intn(4) {
		text += "lex " + pick("N", "M", "W") + " = "
		for range 1 + r.Intn(4) {
			text += pick(`"x"`, `"yz"`, "[a]", "[ab]+", "[b]*", "[a]?", "M", "M?", "N*", "N+") + " "
		}
		text += ";"
	}
	if r.Intn(2) == 0 {
		text += `cf E = "(" E ")" bracket; `
	}
	if r.Intn(3) == 0 {
		text += `cf F = "<" "<" F ">" bracket; cf E = "{" E "}" bracket; `
	}
	if r.Intn(2) == 0 {
		text += `prio left A > non C0; `
	}
	return text
}

// rightOnes calls with so many definitions that are right, and their grammars.
func rightOnes(t *testing.T, seed int64, n int, look func(r *rand.Rand, text string, k api.Kern)) {
	t.Helper()
	r := rand.New(rand.NewSource(seed))
	right := 0
	for range n {
		text := byChance(r)
		k, code := kernel.Make(must(t, text))
		if code != api.OK {
			if have := Sorted(must(t, text), "E", api.Term{}); have != api.ErrDef {
				t.Fatalf("%q: %d", text, have)
			}
			continue
		}
		right++
		look(r, text, k)
	}
	if right < n/4 {
		t.Errorf("only %d of %d are right", right, n)
	}
}

// heights is of each rule how deep its least tree is.
func heights(g api.Gram) []int {
	const none = 1 << 30
	nts := slices.Repeat([]int{none}, g.Nts)
	rules := slices.Repeat([]int{none}, len(g.Rules))
	for changed := true; changed; {
		changed = false
		for i, rule := range g.Rules {
			deep := 0
			for _, s := range rule.Rhs {
				if s.Nt >= 0 {
					deep = max(deep, nts[s.Nt])
				}
			}
			if deep < none && deep+1 < rules[i] {
				rules[i] = deep + 1
				nts[rule.Lhs] = min(nts[rule.Lhs], deep+1)
				changed = true
			}
		}
	}
	return rules
}

// grow is a tree of a nonterminal by chance, with gaps and brackets where they may be.
func grow(r *rand.Rand, g api.Gram, high []int, nt, fuel int) api.Tree {
	var rules []int
	for i, rule := range g.Rules {
		if rule.Lhs == nt && high[i] < 1<<30 {
			rules = append(rules, i)
		}
	}
	rule := rules[r.Intn(len(rules))]
	if fuel <= 0 {
		for _, other := range rules {
			if high[other] < high[rule] {
				rule = other
			}
		}
	}
	t := api.Tree{Rule: rule}
	for _, s := range g.Rules[rule].Rhs {
		if s.Nt >= 0 {
			t.Kids = append(t.Kids, grow(r, g, high, s.Nt, fuel-1))
			continue
		}
		for b := 255; ; b-- {
			if s.Set[b/64]>>(b%64)&1 == 1 {
				t.Kids = append(t.Kids, api.Tree{Rule: -1, Byte: byte(b)})
				break
			}
		}
	}
	return t
}

// slowTerm is the chapter's words of a tree's term, told by a call that calls itself.
func slowTerm(k api.Kern, t api.Tree) api.Term {
	from := k.From[t.Rule]
	if from.Kind == api.OTop {
		return slowTerm(k, t.Kids[len(t.Kids)/2])
	}
	p := k.Def.Prods[from.Prod]
	if p.Lex {
		return api.Term{Kind: api.TLex, Text: trees.Yield(t)}
	}
	var kids []api.Term
	bit := 0
	for place, s := range p.Syms {
		there := true
		if s.Kind == api.SOpt || s.Kind == api.SStar {
			there = from.Mask>>bit&1 == 1
			bit++
		}
		var at api.Tree
		for i, sym := range from.Syms {
			if sym == place {
				at = t.Kids[i]
			}
		}
		switch {
		case s.Kind == api.SLit:
		case s.Kind == api.SOpt && !there:
			kids = append(kids, api.Term{Kind: api.TNone})
		case s.Kind == api.SStar && !there:
			kids = append(kids, api.Term{Kind: api.TList})
		case s.Kind == api.SSort:
			kids = append(kids, slowTerm(k, at))
		case s.Kind == api.SOpt:
			kids = append(kids, api.Term{Kind: api.TSome, Kids: []api.Term{slowTerm(k, at)}})
		default:
			kids = append(kids, api.Term{Kind: api.TList, Kids: slowParts(k, at)})
		}
	}
	if p.Bracket {
		return kids[0]
	}
	return api.Term{Kind: api.TApp, Cons: p.Cons, Kids: kids}
}

func slowParts(k api.Kern, t api.Tree) []api.Term {
	part := slowTerm(k, t.Kids[len(t.Kids)-1])
	if k.From[t.Rule].Kind == api.OOne {
		return []api.Term{part}
	}
	return append(slowParts(k, t.Kids[0]), part)
}

// isOfSort is the chapter's words of a term of a sort.
func isOfSort(d api.Def, sort string, t api.Term) bool {
	if slices.Contains(check.Lexical(d), sort) {
		return t.Kind == api.TLex
	}
	place := check.Cons(d, t.Cons)
	if t.Kind != api.TApp || place < 0 || d.Prods[place].Sort != sort {
		return false
	}
	holes := check.Holes(d.Prods[place])
	if len(holes) != len(t.Kids) {
		return false
	}
	for i, hole := range holes {
		s, kid := d.Prods[place].Syms[hole], t.Kids[i]
		parts := kid.Kids
		switch {
		case s.Kind == api.SSort:
			parts = []api.Term{kid}
		case s.Kind == api.SOpt && kid.Kind == api.TNone:
		case s.Kind == api.SOpt && kid.Kind == api.TSome:
		case s.Kind == api.SStar && kid.Kind == api.TList:
		case s.Kind == api.SPlus && kid.Kind == api.TList && len(kid.Kids) > 0:
		default:
			return false
		}
		for _, part := range parts {
			if !isOfSort(d, s.Name, part) {
				return false
			}
		}
	}
	return true
}

// slowYield is a term's literals and lexemes, in order.
func slowYield(d api.Def, t api.Term) string {
	if t.Kind == api.TLex {
		return string(t.Text)
	}
	text := ""
	kids := t.Kids
	for _, s := range d.Prods[check.Cons(d, t.Cons)].Syms {
		if s.Kind == api.SLit {
			text += s.Text
			continue
		}
		parts := kids[0].Kids
		if s.Kind == api.SSort {
			parts = kids[:1]
		}
		kids = kids[1:]
		for i, part := range parts {
			if i > 0 {
				text += s.Sep
			}
			text += slowYield(d, part)
		}
	}
	return text
}

// isPlain tells whether a tree has no brackets, empty gaps alone, and of each lexeme the first tree.
func isPlain(k api.Kern, t api.Tree) bool {
	from := k.From[t.Rule]
	switch {
	case from.Kind == api.OGapMore || from.Kind == api.OTop:
		return false
	case from.Kind == api.OUser && k.Def.Prods[from.Prod].Bracket:
		return false
	case from.Kind == api.OUser && k.Def.Prods[from.Prod].Lex:
		g := k.Gram
		g.Start = g.Rules[t.Rule].Lhs
		first, code := forest.Trees(g, trees.Yield(t), 1)
		return code == api.OK && trees.Same(first[0], t)
	}
	return !slices.ContainsFunc(t.Kids, func(kid api.Tree) bool { return kid.Rule >= 0 && !isPlain(k, kid) })
}

// P12.1 to P12.6 of any trees of any definitions.
func TestByWords(t *testing.T) {
	count := 0
	rightOnes(t, 12, 1200, func(r *rand.Rand, text string, k api.Kern) {
		high := heights(k.Gram)
		for range 4 {
			name := []string{"E", "F", "N", "M", "W", "top"}[r.Intn(6)]
			nt := slices.Index(k.Names, name)
			tree := grow(r, k.Gram, high, nt, r.Intn(7))
			if trees.Right(k.Gram, nt, tree) != api.OK {
				t.Fatalf("%q: a tree that is not right", text)
			}
			x, code := Implode(k.Def, tree)
			if code != api.OK || !terms.Same(x, slowTerm(k, tree)) {
				t.Fatalf("%q: %s %d, not %s", text, shown(x), code, shown(slowTerm(k, tree)))
			}
			if name == "top" {
				name = k.Def.Start
			}
			if code := Sorted(k.Def, name, x); code != api.OK || !isOfSort(k.Def, name, x) {
				t.Fatalf("%q: %s is no %s: %d", text, shown(x), name, code)
			}
			tooLong := slices.ContainsFunc(terms.Lexemes(x), func(b []byte) bool { return len(b) > api.MaxInput })
			plain, code := Explode(k.Def, name, x)
			if tooLong {
				if code != api.ErrLex {
					t.Fatalf("%q: %d", text, code)
				}
				continue
			}
			back, e := Implode(k.Def, plain)
			if code != api.OK || e != api.OK || !terms.Same(back, x) {
				t.Fatalf("%q: %s %d, back %s %d", text, shown(x), code, shown(back), e)
			}
			if trees.Right(k.Gram, slices.Index(k.Names, name), plain) != api.OK || !isPlain(k, plain) || string(trees.Yield(plain)) != slowYield(k.Def, x) {
				t.Fatalf("%q: %s has the tree %v of %q", text, shown(x), plain, trees.Yield(plain))
			}
			count++
		}
	})
	if count < 1000 {
		t.Errorf("%d trees", count)
	}
}

// P12.1: terms that were changed by chance, of all sorts.
func TestChangedTerms(t *testing.T) {
	count := map[bool]int{}
	rightOnes(t, 121, 200, func(r *rand.Rand, text string, k api.Kern) {
		high := heights(k.Gram)
		var parts []api.Term
		for _, name := range []string{"E", "F", "N", "E", "F"} {
			x, code := Implode(k.Def, grow(r, k.Gram, high, slices.Index(k.Names, name), 5))
			if code != api.OK {
				t.Fatalf("%q: %d", text, code)
			}
			parts = slices.AppendSeq(parts, terms.Walk(x))
		}
		for range 40 {
			x := parts[r.Intn(len(parts))]
			path := []int{}
			for at := x; len(at.Kids) > 0 && r.Intn(3) > 0; {
				path = append(path, r.Intn(len(at.Kids)))
				at = at.Kids[path[len(path)-1]]
			}
			with, _ := terms.Put(x, path, parts[r.Intn(len(parts))])
			for _, sort := range check.Sorts(k.Def) {
				want := api.ErrSort
				if isOfSort(k.Def, sort, with) {
					want = api.OK
				}
				count[want == api.OK]++
				if have := Sorted(k.Def, sort, with); have != want {
					t.Fatalf("%q: %s of %s: %d, not %d", text, shown(with), sort, have, want)
				}
				if want == api.ErrSort {
					if tree, code := Explode(k.Def, sort, with); code != want || !trees.Same(tree, api.Tree{}) {
						t.Fatalf("%q: %s of %s: %d, not %d", text, shown(with), sort, code, want)
					}
				}
			}
		}
	})
	if count[true] < 1000 || count[false] < 1000 {
		t.Errorf("%v", count)
	}
}

// P12.7: a bracket around a node, and several within one another.
func TestBrackets(t *testing.T) {
	count := 0
	rightOnes(t, 127, 600, func(r *rand.Rand, text string, k api.Kern) {
		high := heights(k.Gram)
		for range 4 {
			tree := grow(r, k.Gram, high, k.Gram.Start, 5)
			want, code := Implode(k.Def, tree)
			if code != api.OK {
				t.Fatalf("%q: %d", text, code)
			}
			for range 3 {
				tree = bracketed(r, k, tree, &count)
			}
			if have, code := Implode(k.Def, tree); code != api.OK || !terms.Same(have, want) {
				t.Fatalf("%q: %s %d, not %s", text, shown(have), code, shown(want))
			}
		}
	})
	if count < 1000 {
		t.Errorf("%d brackets", count)
	}
}

// bracketed is a tree with a bracket around one of its nodes, if there is one whose sort has a bracket.
func bracketed(r *rand.Rand, k api.Kern, tree api.Tree, count *int) api.Tree {
	var paths [][]int
	for path := range allPaths(tree) {
		if node, _ := trees.At(tree, path); node.Rule >= 0 && k.From[node.Rule].Kind == api.OUser && !k.Def.Prods[k.From[node.Rule].Prod].Lex {
			paths = append(paths, path)
		}
	}
	path := paths[r.Intn(len(paths))]
	node, _ := trees.At(tree, path)
	for rule, from := range k.From {
		if from.Kind != api.OUser || !k.Def.Prods[from.Prod].Bracket || k.Gram.Rules[rule].Lhs != k.Gram.Rules[node.Rule].Lhs {
			continue
		}
		around := api.Tree{Rule: rule}
		literals := ""
		for _, s := range k.Def.Prods[from.Prod].Syms {
			literals += s.Text
		}
		for _, s := range k.Gram.Rules[rule].Rhs {
			switch {
			case s.Nt == -1:
				around.Kids = append(around.Kids, api.Tree{Rule: -1, Byte: literals[0]})
				literals = literals[1:]
			case k.Names[s.Nt] == "gap":
				around.Kids = append(around.Kids, api.Tree{Rule: len(k.From) - 3})
			default:
				around.Kids = append(around.Kids, node)
			}
		}
		*count++
		tree, _ = trees.Put(tree, path, around)
		return tree
	}
	return tree
}
