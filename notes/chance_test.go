package notes

import (
	"cmp"
	"math/rand"
	"slices"
	"strconv"
	"testing"

	"tracery/api"
	"tracery/forest"
	"tracery/kernel"
	"tracery/trees"
)

// found is a gap, and where it reaches.
type found struct {
	tree api.Tree
	run  api.Run
}

// slowGaps is a tree's gaps by the chapter's words: nodes of the gap's nonterminal that lie in no other one.
func slowGaps(k api.Kern, t api.Tree) []found {
	spans := trees.Spans(t)
	var list []found
	var look func(t api.Tree, inGap bool)
	look = func(t api.Tree, inGap bool) {
		run := spans[0]
		spans = spans[1:]
		isGap := t.Rule >= 0 && k.Names[k.Gram.Rules[t.Rule].Lhs] == "gap"
		if isGap && !inGap {
			list = append(list, found{t, run})
		}
		for _, kid := range t.Kids {
			look(kid, inGap || isGap)
		}
	}
	look(t, false)
	return list
}

// slowNotes is a tree's notes by the chapter's words: kids of OGapMore whose production has a Cons, by their places.
func slowNotes(k api.Kern, t api.Tree) []api.Note {
	var list []api.Note
	for number, gap := range slowGaps(k, t) {
		type at struct {
			place int
			note  api.Note
		}
		var notes []at
		spans := trees.Spans(gap.tree)
		var look func(t api.Tree, isKid bool)
		look = func(t api.Tree, isKid bool) {
			run := spans[0]
			spans = spans[1:]
			if isKid && k.From[t.Rule].Kind == api.OUser && k.Def.Prods[k.From[t.Rule].Prod].Cons != "" {
				notes = append(notes, at{run.Lo, api.Note{Gap: number, Cons: k.Def.Prods[k.From[t.Rule].Prod].Cons, Text: trees.Yield(t)}})
			}
			for _, kid := range t.Kids {
				look(kid, t.Rule >= 0 && k.From[t.Rule].Kind == api.OGapMore)
			}
		}
		look(gap.tree, false)
		slices.SortFunc(notes, func(a, b at) int { return cmp.Compare(a.place, b.place) })
		for _, n := range notes {
			list = append(list, n.note)
		}
	}
	return list
}

// slowFill is a tree with the first trees of other texts in the places of its gaps.
func slowFill(t *testing.T, k api.Kern, tree api.Tree, gaps [][]byte) (api.Tree, bool) {
	g := k.Gram
	g.Start = slices.Index(k.Names, "gap")
	all := true
	var fill func(tree api.Tree) api.Tree
	fill = func(tree api.Tree) api.Tree {
		if tree.Rule >= 0 && k.Gram.Rules[tree.Rule].Lhs == g.Start {
			list, code := forest.Trees(g, gaps[0], 1)
			if code != api.OK {
				t.Fatal(code)
			}
			gaps = gaps[1:]
			if len(list) == 0 {
				all = false
				return api.Tree{}
			}
			return list[0]
		}
		out := api.Tree{Rule: tree.Rule, Byte: tree.Byte}
		for _, kid := range tree.Kids {
			out.Kids = append(out.Kids, fill(kid))
		}
		return out
	}
	tree = fill(tree)
	return tree, all
}

// byChance is a definition of a few sorts and a layout of several productions; most are right.
func byChance(t testing.TB, r *rand.Rand) api.Def {
	pick := func(list ...string) string { return list[r.Intn(len(list))] }
	text := `start ` + pick("E", "F") + `; cf E.A = "a"; lex N = "n" | "m" N; cf F.B = "b"; `
	if r.Intn(6) > 0 {
		text += `layout W; `
	}
	for i := range 1 + r.Intn(4) {
		text += "cf " + pick("E", "F") + ".C" + strconv.Itoa(i) + " = "
		for range 1 + r.Intn(5) {
			text += pick("E", "F", "E", "F", "N", `"x"`, `"yz"`, "E?", "F?", "N?", "E*", "F+", "N+", `{F ","}+`, `{E ",;"}*`, `{N " "}+`) + " "
		}
		text += ";"
	}
	text += pick("", `cf E = "(" E ")" bracket; `, `cf F = "<" "<:" F ">" bracket; `) + `lex W = " "; `
	for i := range r.Intn(5) {
		text += "lex W" + pick("", ".D"+strconv.Itoa(i), ".Note") + " = "
		for j := range 1 + r.Intn(3) {
			text += pick(`" "`, `"\n"`, `"#"`, `[a-z]`, `[\s]*`, `"x"`, "V", "V?", "N")
			if j == 0 {
				text += pick("", `"/"`, ` | "%"`)
			}
		}
		text += "; "
	}
	return must(t, text+`lex V = "!" W `+pick("", "| W", `| "!"`)+";")
}

// heights is of each rule how deep its least tree is.
func heights(g api.Gram) []int {
	const none = 1 << 30
	nts := slices.Repeat([]int{none}, g.Nts)
	rules := slices.Repeat([]int{none}, len(g.Rules))
	for changed := true; changed; {
		changed = false
		for i, rule := range g.Rules {
			deep := 0
			for _, s := range rule.Rhs {
				if s.Nt >= 0 {
					deep = max(deep, nts[s.Nt])
				}
			}
			if deep < none && deep+1 < rules[i] {
				rules[i] = deep + 1
				nts[rule.Lhs] = min(nts[rule.Lhs], deep+1)
				changed = true
			}
		}
	}
	return rules
}

// grow is a tree of a nonterminal by chance, with gaps and brackets where they may be.
func grow(r *rand.Rand, g api.Gram, high []int, nt, fuel int) api.Tree {
	var rules []int
	for i, rule := range g.Rules {
		if rule.Lhs == nt && high[i] < 1<<30 {
			rules = append(rules, i)
		}
	}
	rule := rules[r.Intn(len(rules))]
	if fuel <= 0 {
		for _, other := range rules {
			if high[other] < high[rule] {
				rule = other
			}
		}
	}
	t := api.Tree{Rule: rule}
	for _, s := range g.Rules[rule].Rhs {
		if s.Nt >= 0 {
			t.Kids = append(t.Kids, grow(r, g, high, s.Nt, fuel-1))
			continue
		}
		for b := 255; ; b-- {
			if s.Set[b/64]>>(b%64)&1 == 1 {
				t.Kids = append(t.Kids, api.Tree{Rule: -1, Byte: byte(b)})
				break
			}
		}
	}
	return t
}

// All promises, of any trees of any definitions.
func TestByWords(t *testing.T) {
	r := rand.New(rand.NewSource(16))
	count := map[string]int{}
	for range 800 {
		d := byChance(t, r)
		k, code := kernel.Make(d)
		if code != api.OK {
			tells(t, d, api.Tree{}, api.ErrDef)
			continue
		}
		count["right"]++
		high := heights(k.Gram)
		for range 4 {
			name := []string{"E", "F", "top", "top", "N", "W"}[r.Intn(6)]
			tree := grow(r, k.Gram, high, slices.Index(k.Names, name), r.Intn(8))
			if size, _ := trees.Size(tree); size > 1000 {
				continue
			}
			own := looksRight(t, k, tree, count)
			for range 2 {
				fillsRight(t, k, tree, anyGaps(r, k, high, own), count)
			}
		}
	}
	for word, least := range map[string]int{"right": 300, "gaps": 2000, "notes": 500, "filled": 1000, "not filled": 100} {
		if count[word] < least {
			t.Errorf("%s: %d", word, count[word])
		}
	}
}

// looksRight holds what is told of a tree against the chapter's words; it tells the gaps.
func looksRight(t *testing.T, k api.Kern, tree api.Tree, count map[string]int) [][]byte {
	t.Helper()
	yield := trees.Yield(tree)
	var gaps, pieces [][]byte
	at := 0
	for _, gap := range slowGaps(k, tree) {
		gaps = append(gaps, yield[gap.run.Lo:gap.run.Hi])
		pieces = append(pieces, yield[at:gap.run.Lo])
		at = gap.run.Hi
	}
	pieces = append(pieces, yield[at:])
	notes := slowNotes(k, tree)
	haveGaps, e1 := Gaps(k.Def, tree)
	havePieces, e2 := Pieces(k.Def, tree)
	haveNotes, e3 := Notes(k.Def, tree)
	if e1 != api.OK || e2 != api.OK || e3 != api.OK {
		t.Fatalf("%q: %d %d %d", yield, e1, e2, e3)
	}
	if len(haveGaps) != len(gaps) || shown(haveGaps) != shown(gaps) || len(havePieces) != len(pieces) || shown(havePieces) != shown(pieces) || len(haveNotes) != len(notes) || told(haveNotes) != told(notes) {
		t.Fatalf("%q: %q %q %q, not %q %q %q", yield, haveGaps, havePieces, told(haveNotes), gaps, pieces, told(notes))
	}
	followsOf(t, k.Def, tree)
	count["gaps"] += len(gaps)
	count["notes"] += len(notes)
	return gaps
}

// anyGaps is as many gaps by chance; some of them are none.
func anyGaps(r *rand.Rand, k api.Kern, high []int, own [][]byte) [][]byte {
	list := slices.Clone(own)
	for i := range list {
		switch r.Intn(9) {
		case 0:
			list[i] = nil
		case 1:
			list[i] = list[r.Intn(len(list))]
		case 2:
			if r.Intn(4) == 0 {
				list[i] = []byte("?")
			}
		default:
			list[i] = trees.Yield(grow(r, k.Gram, high, slices.Index(k.Names, "gap"), r.Intn(5)))
		}
		if len(list[i]) > 40 {
			list[i] = nil
		}
	}
	return list
}

// fillsRight holds a filled tree against the chapter's words.
func fillsRight(t *testing.T, k api.Kern, tree api.Tree, gaps [][]byte, count map[string]int) {
	t.Helper()
	want, all := slowFill(t, k, tree, gaps)
	full, code := Fill(k.Def, tree, gaps)
	if !all {
		count["not filled"]++
		if code != api.ErrGap || !trees.Same(full, api.Tree{}) {
			t.Fatalf("with %q: %d", gaps, code)
		}
		return
	}
	count["filled"]++
	if code != api.OK || !trees.Same(full, want) {
		t.Fatalf("with %q: %q %d, not %q", gaps, trees.Yield(full), code, trees.Yield(want))
	}
	filledRight(t, k.Def, tree, gaps)
	for _, wrong := range [][][]byte{append(slices.Clone(gaps), nil), gaps[:max(len(gaps)-1, 0)]} {
		if _, code := Fill(k.Def, tree, wrong); len(wrong) != len(gaps) && code != api.ErrArg {
			t.Fatalf("with %q: %d", wrong, code)
		}
	}
}
