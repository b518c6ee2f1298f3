package box

import (
	"bytes"
	"math/rand"
	"slices"
	"strconv"
	"strings"
	"testing"

	"tracery/api"
	"tracery/ast"
	"tracery/filter"
	"tracery/kernel"
	"tracery/layout"
	"tracery/paren"
	"tracery/terms"
	"tracery/trees"
)

// words is the chapter's words of a tree's document, by calls that call themselves.
type words struct {
	k     api.Kern
	texts []string // of the literals and lexemes that were met
}

func (w *words) line(text string) api.Doc {
	if w.k.Def.Layout == "" {
		return api.Doc{Kind: api.DCat}
	}
	return api.Doc{Kind: api.DLine, Text: text}
}

func (w *words) text(text string) api.Doc {
	w.texts = append(w.texts, text)
	return api.Doc{Kind: api.DText, Text: text}
}

func (w *words) tree(t api.Tree) api.Doc {
	from := w.k.From[t.Rule]
	if from.Kind == api.OTop {
		for _, kid := range t.Kids {
			if w.k.Names[w.k.Gram.Rules[kid.Rule].Lhs] == w.k.Def.Start {
				return w.tree(kid)
			}
		}
		panic("no kid of the top is of Start")
	}
	p := w.k.Def.Prods[from.Prod]
	if p.Lex {
		return w.text(string(trees.Yield(t)))
	}
	for _, b := range w.k.Def.Boxes {
		if b.Cons == p.Cons {
			return api.Doc{Kind: api.DCat, Kids: w.items(b.Items, t)}
		}
	}
	doc := api.Doc{Kind: api.DGroup}
	if p.Bracket {
		doc.Kind = api.DCat
	}
	for i, s := range p.Syms {
		if !slices.Contains(from.Syms, i) {
			continue
		}
		if len(doc.Kids) > 0 && !p.Bracket {
			doc.Kids = append(doc.Kids, w.line(" "))
		}
		if s.Kind == api.SLit {
			doc.Kids = append(doc.Kids, w.text(s.Text))
		} else {
			doc.Kids = append(doc.Kids, w.symbol(t, i))
		}
	}
	return doc
}

// symbol is the document of what stands in the hole that is the symbol at a place.
func (w *words) symbol(t api.Tree, place int) api.Doc {
	from := w.k.From[t.Rule]
	s := w.k.Def.Prods[from.Prod].Syms[place]
	for i, sym := range from.Syms {
		switch {
		case sym != place:
		case s.Kind == api.SSort || s.Kind == api.SOpt:
			return w.tree(t.Kids[i])
		default:
			return api.Doc{Kind: api.DCat, Kids: w.parts(t.Kids[i], s.Sep)}
		}
	}
	return api.Doc{Kind: api.DCat}
}

func (w *words) parts(t api.Tree, sep string) []api.Doc {
	last := w.tree(t.Kids[len(t.Kids)-1])
	if w.k.From[t.Rule].Kind == api.OOne {
		return []api.Doc{last}
	}
	list := w.parts(t.Kids[0], sep)
	if sep != "" {
		list = append(list, w.text(sep))
	}
	return append(list, w.line(" "), last)
}

func (w *words) items(list []api.Item, t api.Tree) []api.Doc {
	var docs []api.Doc
	for _, item := range list {
		var doc api.Doc
		switch item.Kind {
		case api.BText:
			doc = w.text(item.Text)
		case api.BHole:
			doc = w.symbol(t, w.hole(t, item.N))
		case api.BLine:
			doc = w.line(" ")
		case api.BCut:
			doc = w.line("")
		case api.BNest:
			doc = api.Doc{Kind: api.DNest, N: item.N, Kids: w.items(item.Items, t)}
		case api.BGroup:
			doc = api.Doc{Kind: api.DGroup, Kids: w.items(item.Items, t)}
		}
		docs = append(docs, doc)
	}
	return docs
}

// hole is the place of a production's hole of that number.
func (w *words) hole(t api.Tree, number int) int {
	for i, s := range w.k.Def.Prods[w.k.From[t.Rule].Prod].Syms {
		if s.Kind != api.SLit {
			number--
		}
		if number == 0 {
			return i
		}
	}
	panic("no such hole")
}

// byChance is a definition of a few sorts, chains and templates; most are right.
func byChance(t testing.TB, r *rand.Rand) api.Def {
	pick := func(list ...string) string { return list[r.Intn(len(list))] }
	text := `start ` + pick("E", "F") + `; cf E.A = "a"; lex N = "n" | "m" N; lex N.Break = "b\n"; cf F.B = "b"; lex W = ` + pick(`" "`, `[\s\n]`, `[\s\n]`, `[\s\n]`, `"\n"`, `"~"`) + "; "
	if r.Intn(4) > 0 {
		text += `layout W; `
	}
	cons := []string{"A", "B"}
	for i := range 1 + r.Intn(5) {
		cons = append(cons, "C"+strconv.Itoa(i))
		text += "cf " + pick("E", "F") + ".C" + strconv.Itoa(i) + " = "
		for range 1 + r.Intn(5) {
			text += pick("E", "F", "E", "F", "N", `"x"`, `"yz"`, `"x"`, `"yz"`, "E?", "F?", "N?", "E*", "F+", "N+", `{F ","}+`, `{E ",;"}*`, `{N " "}+`) + " "
			if r.Intn(60) == 0 {
				text += pick(`"\n" `, `{E "\n"}+ `)
			}
		}
		text += ";"
	}
	if r.Intn(4) > 0 {
		text += `cf E = "(" E ")" bracket; cf F = "<" "<:" F ">" bracket; `
	}
	for range r.Intn(3) {
		r.Shuffle(len(cons), func(i, j int) { cons[i], cons[j] = cons[j], cons[i] })
		text += "prio " + pick("", "left ", "right ", "non ") + strings.Join(cons[:1+r.Intn(len(cons))], pick(" ", " > ", " > left ")) + "; "
	}
	if r.Intn(3) == 0 {
		text += `follow N [nm]; `
	}
	d := must(t, text)
	for _, p := range d.Prods {
		if p.Cons != "" && !p.Lex && r.Intn(2) == 0 {
			d.Boxes = append(d.Boxes, api.Box{Cons: p.Cons, Items: anyItems(r, leaves(p), 3)})
		}
	}
	r.Shuffle(len(d.Boxes), func(i, j int) { d.Boxes[i], d.Boxes[j] = d.Boxes[j], d.Boxes[i] })
	return d
}

// leaves is the items that a template of a production must have.
func leaves(p api.Prod) []api.Item {
	var list []api.Item
	holes := 0
	for _, s := range p.Syms {
		if s.Kind == api.SLit {
			list = append(list, api.Item{Kind: api.BText, Text: s.Text})
		} else {
			holes++
			list = append(list, api.Item{Kind: api.BHole, N: holes})
		}
	}
	return list
}

// anyItems is a template of these leaves by chance.
func anyItems(r *rand.Rand, leaves []api.Item, deep int) []api.Item {
	var list []api.Item
	for len(leaves) > 0 || r.Intn(4) == 0 {
		n := r.Intn(len(leaves) + 1)
		kind := 1 + r.Intn(6)
		switch {
		case kind <= api.BHole || deep == 0:
			n = min(1, len(leaves))
			list = append(list, leaves[:n]...)
		case kind == api.BLine || kind == api.BCut:
			n = 0
			list = append(list, api.Item{Kind: kind})
		case kind == api.BNest:
			list = append(list, api.Item{Kind: kind, N: []int{0, 1, 4, 40}[r.Intn(4)], Items: anyItems(r, leaves[:n], deep-1)})
		default:
			list = append(list, api.Item{Kind: kind, Items: anyItems(r, leaves[:n], deep-1)})
		}
		leaves = leaves[n:]
	}
	return list
}

// heights is of each rule how deep its least tree is.
func heights(g api.Gram) []int {
	const none = 1 << 30
	nts := slices.Repeat([]int{none}, g.Nts)
	rules := slices.Repeat([]int{none}, len(g.Rules))
	for changed := true; changed; {
		changed = false
		for i, rule := range g.Rules {
			deep := 0
			for _, s := range rule.Rhs {
				if s.Nt >= 0 {
					deep = max(deep, nts[s.Nt])
				}
			}
			if deep < none && deep+1 < rules[i] {
				rules[i] = deep + 1
				nts[rule.Lhs] = min(nts[rule.Lhs], deep+1)
				changed = true
			}
		}
	}
	return rules
}

// grow is a tree of a nonterminal by chance, with gaps and brackets where they may be.
func grow(r *rand.Rand, g api.Gram, high []int, nt, fuel int) api.Tree {
	var rules []int
	for i, rule := range g.Rules {
		if rule.Lhs == nt && high[i] < 1<<30 {
			rules = append(rules, i)
		}
	}
	rule := rules[r.Intn(len(rules))]
	if fuel <= 0 {
		for _, other := range rules {
			if high[other] < high[rule] {
				rule = other
			}
		}
	}
	t := api.Tree{Rule: rule}
	for _, s := range g.Rules[rule].Rhs {
		if s.Nt >= 0 {
			t.Kids = append(t.Kids, grow(r, g, high, s.Nt, fuel-1))
			continue
		}
		for b := 255; ; b-- {
			if s.Set[b/64]>>(b%64)&1 == 1 {
				t.Kids = append(t.Kids, api.Tree{Rule: -1, Byte: byte(b)})
				break
			}
		}
	}
	return t
}

// hasBreak tells whether a text has a byte 10.
func hasBreak(text string) bool { return strings.Contains(text, "\n") }

// noBlanks is a text without bytes 10 and 32.
func noBlanks(s string) string { return strings.NewReplacer("\n", "", " ", "").Replace(s) }

// P15.1 of any trees of any definitions, and P15.2 to P15.6 of their terms.
func TestByWords(t *testing.T) {
	r := rand.New(rand.NewSource(15))
	right := 0
	docs, prints := map[api.Errno]int{}, map[api.Errno]int{}
	for range 1000 {
		d := byChance(t, r)
		k, code := kernel.Make(d)
		if code != api.OK {
			if doc, code := Make(d, api.Tree{}); code != api.ErrDef || told(doc) != told(api.Doc{}) {
				t.Fatal(told(doc), code)
			}
			continue
		}
		right++
		high := heights(k.Gram)
		for range 4 {
			name := []string{"E", "F", "top", "top", "N", "W"}[r.Intn(6)]
			tree := grow(r, k.Gram, high, slices.Index(k.Names, name), r.Intn(7))
			if size, _ := trees.Size(tree); size > 1000 {
				continue
			}
			docs[makesRight(t, k, tree)]++
			if x, _ := ast.Implode(d, tree); name == "top" && len(trees.Yield(tree)) < 60 {
				prints[printsRight(t, r, k, x)]++
			}
		}
	}
	if right < 400 || docs[api.OK] < 600 || docs[api.ErrDoc] < 100 {
		t.Errorf("%d are right, documents %v", right, docs)
	}
	if prints[api.OK] < 100 || prints[api.ErrNeed] < 5 || prints[api.ErrDoc] < 30 || prints[api.ErrPrint] < 30 {
		t.Errorf("prints %v", prints)
	}
}

// makesRight holds a tree's document against the chapter's words.
func makesRight(t *testing.T, k api.Kern, tree api.Tree) api.Errno {
	t.Helper()
	w := &words{k: k}
	want, code := w.tree(tree), api.OK
	if slices.ContainsFunc(w.texts, hasBreak) {
		want, code = api.Doc{}, api.ErrDoc
	}
	if doc, have := Make(k.Def, tree); have != code || told(doc) != told(want) {
		t.Fatalf("%q: %s %d, not %s %d", trees.Yield(tree), told(doc), have, told(want), code)
	}
	return code
}

// slowPrint is the chapter's words of printing.
func slowPrint(k api.Kern, x api.Term, width int) (string, api.Errno) {
	tree, code := paren.Insert(k.Def, k.Def.Start, x)
	if code != api.OK {
		return "", code
	}
	w := &words{k: k}
	doc := w.tree(tree)
	if slices.ContainsFunc(w.texts, hasBreak) {
		return "", api.ErrDoc
	}
	text, code := layout.Render(doc, width)
	if code != api.OK {
		return "", code
	}
	if len(text) > api.MaxInput {
		return "", api.ErrLong
	}
	list, _ := filter.Trees(k.Gram, k.Filters, []byte(text), api.MaxTrees)
	for _, tree := range list {
		if back, _ := ast.Implode(k.Def, tree); terms.Same(back, x) {
			return text, api.OK
		}
	}
	return "", api.ErrPrint
}

// printsRight holds what is printed of a term against the chapter's words, and looks at what follows of them.
func printsRight(t *testing.T, r *rand.Rand, k api.Kern, x api.Term) api.Errno {
	t.Helper()
	tree, _ := paren.Insert(k.Def, k.Def.Start, x)
	yield := string(trees.Yield(tree))
	var last api.Errno
	for _, width := range []int{r.Intn(9), 10 + r.Intn(30), 9999, -r.Intn(3)} {
		want, code := slowPrint(k, x, width)
		text, have := Print(k.Def, x, width)
		if text != want || have != code {
			t.Fatalf("%s in %d: %q %d, not %q %d", shown(x), width, text, have, want, code)
		}
		last = have
		if have != api.OK {
			continue
		}
		if noBlanks(text) != noBlanks(yield) || k.Def.Layout == "" && text != yield {
			t.Fatalf("%s in %d: %q, but the yield is %q", shown(x), width, text, yield)
		}
		list, _ := filter.Trees(k.Gram, k.Filters, []byte(text), 2)
		if back, _ := ast.Implode(k.Def, list[0]); len(list) == 1 && !terms.Same(back, x) {
			t.Fatalf("%s in %d: %q is read as %s", shown(x), width, text, shown(back))
		}
		if !bytes.Equal(trees.Yield(list[0]), []byte(text)) {
			t.Fatalf("%s in %d: %q is not read", shown(x), width, text)
		}
	}
	return last
}
