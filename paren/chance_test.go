package paren

import (
	"math/rand"
	"reflect"
	"slices"
	"strconv"
	"testing"

	"tracery/api"
	"tracery/ast"
	"tracery/check"
	"tracery/kernel"
	"tracery/terms"
	"tracery/trees"
)

// allPaths goes through the paths of a tree.
func allPaths(t api.Tree) func(yield func([]int) bool) {
	return func(yield func([]int) bool) {
		waiting := [][]int{nil}
		for len(waiting) > 0 {
			path := waiting[0]
			waiting = waiting[1:]
			if !yield(path) {
				return
			}
			part, _ := trees.At(t, path)
			for i := range part.Kids {
				waiting = append(waiting, append(slices.Clone(path), i))
			}
		}
	}
}

func isOfBracket(k api.Kern, t api.Tree) bool {
	return t.Rule >= 0 && k.From[t.Rule].Kind == api.OUser && k.Def.Prods[k.From[t.Rule].Prod].Bracket
}

// inHole is the node in a bracket's hole: its one kid of its own nonterminal.
func inHole(k api.Kern, t api.Tree) api.Tree {
	for i, s := range k.Gram.Rules[t.Rule].Rhs {
		if s.Nt == k.Gram.Rules[t.Rule].Lhs {
			return t.Kids[i]
		}
	}
	panic("a bracket without a hole")
}

// slowStrip is a tree without its brackets, told by a call that calls itself.
func slowStrip(k api.Kern, t api.Tree) api.Tree {
	if isOfBracket(k, t) {
		return slowStrip(k, inHole(k, t))
	}
	out := api.Tree{Rule: t.Rule, Byte: t.Byte}
	for _, kid := range t.Kids {
		out.Kids = append(out.Kids, slowStrip(k, kid))
	}
	return out
}

func countBrackets(k api.Kern, t api.Tree) int {
	n := 0
	if isOfBracket(k, t) {
		n++
	}
	for _, kid := range t.Kids {
		n += countBrackets(k, kid)
	}
	return n
}

// violates tells whether a tree violates a ban.
func violates(k api.Kern, t api.Tree) bool {
	for pos, kid := range t.Kids {
		if slices.Contains(k.Filters.Bans, api.Ban{Rule: t.Rule, Pos: pos, Kid: kid.Rule}) || violates(k, kid) {
			return true
		}
	}
	return false
}

// slowBracket is a node in its sort's bracket; false: it has none.
func slowBracket(k api.Kern, node api.Tree) (api.Tree, bool) {
	sort := k.Def.Prods[k.From[node.Rule].Prod].Sort
	for place, p := range k.Def.Prods {
		if !p.Bracket || p.Sort != sort {
			continue
		}
		out := api.Tree{Rule: kernel.Rules(k, place)[0]}
		for i, s := range p.Syms {
			if i > 0 && k.Def.Layout != "" {
				out.Kids = append(out.Kids, api.Tree{Rule: len(k.From) - 3}) // ahead of the other gap's and the top's
			}
			for _, b := range []byte(s.Text) {
				out.Kids = append(out.Kids, api.Tree{Rule: -1, Byte: b})
			}
			if s.Kind == api.SSort {
				out.Kids = append(out.Kids, node)
			}
		}
		return out, true
	}
	return api.Tree{}, false
}

// slowInsert is the chapter's words of a plain tree's bracketed one.
func slowInsert(k api.Kern, t api.Tree) (api.Tree, bool) {
	out := api.Tree{Rule: t.Rule, Byte: t.Byte}
	all := true
	for pos, kid := range t.Kids {
		with, has := slowInsert(k, kid)
		all = all && has
		if slices.Contains(k.Filters.Bans, api.Ban{Rule: t.Rule, Pos: pos, Kid: kid.Rule}) {
			with, has = slowBracket(k, with)
			all = all && has
		}
		out.Kids = append(out.Kids, with)
	}
	return out, all
}

// isBarred tells, by the words of chapter 5, whether a production bars a constructor's at one of its symbols.
func isBarred(d api.Def, p api.Prod, sym int, cons string) bool {
	for _, chain := range d.Chains {
		above, below := -1, -1
		for i, g := range chain {
			if slices.Contains(g.Cons, p.Cons) {
				above = i
			}
			if slices.Contains(g.Cons, cons) {
				below = i
			}
		}
		if above < 0 || below < 0 || above > below {
			continue
		}
		assoc := chain[above].Assoc
		isFirst, isLast := sym == 0, sym == len(p.Syms)-1
		if above < below || assoc == api.ALeft && isLast || assoc == api.ARight && isFirst || assoc == api.ANon && (isFirst || isLast) {
			return true
		}
	}
	return false
}

// slowNeeds is the paths of the terms that are barred where they stand.
func slowNeeds(d api.Def, t api.Term, path []int) [][]int {
	if t.Kind != api.TApp {
		return nil
	}
	var list [][]int
	p := d.Prods[check.Cons(d, t.Cons)]
	for i, hole := range check.Holes(p) {
		kids, steps := []api.Term{t.Kids[i]}, [][]int{{i}}
		if p.Syms[hole].Kind != api.SSort {
			kids, steps = t.Kids[i].Kids, nil
			for n := range kids {
				steps = append(steps, []int{i, n})
			}
		}
		isList := p.Syms[hole].Kind == api.SStar || p.Syms[hole].Kind == api.SPlus
		for n, kid := range kids {
			own := slices.Concat(path, steps[n])
			if !isList && kid.Kind == api.TApp && isBarred(d, p, hole, kid.Cons) {
				list = append(list, own)
			}
			list = append(list, slowNeeds(d, kid, own)...)
		}
	}
	return list
}

// looksRight holds what is told of a term against the chapter's words, and looks at what follows of them; it tells how many brackets there are, -1, if one is lacking.
func looksRight(t *testing.T, d api.Def, sort string, x api.Term) int {
	t.Helper()
	k := made(t, d)
	plain, code := ast.Explode(d, sort, x)
	if code != api.OK {
		t.Fatalf("%s: %d", shown(x), code)
	}
	want, all := slowInsert(k, plain)
	tree, e1 := Insert(d, sort, x)
	paths, e2 := Needs(d, sort, x)
	if !all {
		if e1 != api.ErrNeed || e2 != api.ErrNeed || !trees.Same(tree, api.Tree{}) || paths != nil {
			t.Fatalf("%s: %d %d, not ErrNeed", shown(x), e1, e2)
		}
		return -1
	}
	if e1 != api.OK || e2 != api.OK || !trees.Same(tree, want) {
		t.Fatalf("%s: %q %d %d, not %q", shown(x), trees.Yield(tree), e1, e2, trees.Yield(want))
	}
	if need := slowNeeds(d, x, nil); len(need) != len(paths) || len(need) > 0 && !reflect.DeepEqual(paths, need) {
		t.Fatalf("%s: %v, not %v", shown(x), paths, need)
	}
	for _, path := range paths { // each leads to a term
		if _, code := terms.At(x, path); code != api.OK {
			t.Fatalf("%s: %v leads nowhere", shown(x), path)
		}
	}
	followsOf(t, k, sort, x, plain, tree, len(paths))
	return len(paths)
}

// followsOf looks at what follows of the promises: P13.4 to P13.7.
func followsOf(t *testing.T, k api.Kern, sort string, x api.Term, plain, tree api.Tree, paths int) {
	t.Helper()
	if trees.Right(k.Gram, kernel.Sort(k, sort), tree) != api.OK || violates(k, tree) {
		t.Fatalf("%s: %q violates a ban", shown(x), trees.Yield(tree))
	}
	if back, code := ast.Implode(k.Def, tree); code != api.OK || !terms.Same(back, x) {
		t.Fatalf("%s: %q has the term %s", shown(x), trees.Yield(tree), shown(back))
	}
	if bare, code := Strip(k.Def, tree); code != api.OK || !trees.Same(bare, plain) {
		t.Fatalf("%s: without brackets %q %d", shown(x), trees.Yield(bare), code)
	}
	if n := countBrackets(k, tree); n != paths || len(k.Def.Chains) == 0 && n > 0 {
		t.Fatalf("%s: %q has %d brackets, and %d paths", shown(x), trees.Yield(tree), n, paths)
	}
	if paths == 0 {
		return
	}
	for path := range allPaths(tree) {
		node, _ := trees.At(tree, path)
		if !isOfBracket(k, node) {
			continue
		}
		if less, _ := trees.Put(tree, path, inHole(k, node)); !violates(k, less) {
			t.Fatalf("%s: the bracket at %v of %q is not needed", shown(x), path, trees.Yield(tree))
		}
	}
}

// byChance is a definition of a few sorts and chains; most are right.
func byChance(r *rand.Rand) string {
	pick := func(list ...string) string { return list[r.Intn(len(list))] }
	text := `start ` + pick("E", "F") + `; cf E.A = "a"; lex N = "n" | "m" N; cf F.B = "b"; lex W = " "; `
	if r.Intn(2) == 0 {
		text += `layout W; `
	}
	cons := []string{"A", "B"}
	for i := range 1 + r.Intn(5) {
		cons = append(cons, "C"+strconv.Itoa(i))
		text += "cf " + pick("E", "F") + ".C" + strconv.Itoa(i) + " = "
		for range 1 + r.Intn(5) {
			text += pick("E", "F", "E", "F", "E", "F", "N", `"x"`, `"yz"`, "E?", "F?", "E?", "N?", "E*", "F+", "N+", `{F ","}+`, `{E ",;"}*`) + " "
		}
		text += ";"
	}
	if r.Intn(4) > 0 {
		text += `cf E = "(" E ")" bracket; `
	}
	if r.Intn(4) > 0 {
		text += `cf F = "<" "<:" F ">" bracket; cf E = "{" E "}" bracket; cf F = "[" F "]" bracket; `
	}
	for range r.Intn(4) {
		r.Shuffle(len(cons), func(i, j int) { cons[i], cons[j] = cons[j], cons[i] })
		text += "prio"
		for i, name := range cons[:1+r.Intn(len(cons))] {
			if i > 0 && r.Intn(2) == 0 {
				text += " >"
			}
			if i == 0 || text[len(text)-1] == '>' {
				text += pick("", " left", " right", " non")
			}
			text += " " + name
		}
		text += "; "
	}
	return text
}

// heights is of each rule how deep its least tree is.
func heights(g api.Gram) []int {
	const none = 1 << 30
	nts := slices.Repeat([]int{none}, g.Nts)
	rules := slices.Repeat([]int{none}, len(g.Rules))
	for changed := true; changed; {
		changed = false
		for i, rule := range g.Rules {
			deep := 0
			for _, s := range rule.Rhs {
				if s.Nt >= 0 {
					deep = max(deep, nts[s.Nt])
				}
			}
			if deep < none && deep+1 < rules[i] {
				rules[i] = deep + 1
				nts[rule.Lhs] = min(nts[rule.Lhs], deep+1)
				changed = true
			}
		}
	}
	return rules
}

// grow is a tree of a nonterminal by chance, with gaps and brackets where they may be.
func grow(r *rand.Rand, g api.Gram, high []int, nt, fuel int) api.Tree {
	var rules []int
	for i, rule := range g.Rules {
		if rule.Lhs == nt && high[i] < 1<<30 {
			rules = append(rules, i)
		}
	}
	rule := rules[r.Intn(len(rules))]
	if fuel <= 0 {
		for _, other := range rules {
			if high[other] < high[rule] {
				rule = other
			}
		}
	}
	t := api.Tree{Rule: rule}
	for _, s := range g.Rules[rule].Rhs {
		if s.Nt >= 0 {
			t.Kids = append(t.Kids, grow(r, g, high, s.Nt, fuel-1))
			continue
		}
		for b := 255; ; b-- {
			if s.Set[b/64]>>(b%64)&1 == 1 {
				t.Kids = append(t.Kids, api.Tree{Rule: -1, Byte: byte(b)})
				break
			}
		}
	}
	return t
}

// All promises, of any trees and terms of any definitions.
func TestByWords(t *testing.T) {
	r := rand.New(rand.NewSource(13))
	right, stripped := 0, 0
	brackets := map[int]int{}
	for range 2500 {
		text := byChance(r)
		d := must(t, text)
		k, code := kernel.Make(d)
		if code != api.OK {
			tells(t, d, "E", api.Term{}, api.ErrDef)
			continue
		}
		right++
		high := heights(k.Gram)
		for range 4 {
			name := []string{"E", "F", "E", "F", "N", "top"}[r.Intn(6)]
			tree := grow(r, k.Gram, high, slices.Index(k.Names, name), r.Intn(6))
			if size, _ := trees.Size(tree); size > 2000 {
				continue
			}
			bare, code := Strip(d, tree)
			if code != api.OK || !trees.Same(bare, slowStrip(k, tree)) {
				t.Fatalf("%q: %q %d", text, trees.Yield(bare), code)
			}
			if !trees.Same(bare, tree) {
				stripped++
			}
			x, code := ast.Implode(d, tree)
			if code != api.OK {
				t.Fatalf("%q: %d", text, code)
			}
			if name == "top" {
				name = d.Start
			}
			brackets[min(looksRight(t, d, name, x), 3)]++
		}
	}
	if right < 1000 || stripped < 200 || brackets[-1] < 100 || brackets[0] < 500 || brackets[1] < 100 || brackets[2] < 50 || brackets[3] < 50 {
		t.Errorf("%d are right, %d trees have brackets, %v", right, stripped, brackets)
	}
}
