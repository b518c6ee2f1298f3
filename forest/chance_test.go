package forest

import (
	"math/rand"
	"reflect"
	"slices"
	"strings"
	"testing"

	"tracery/api"
	"tracery/charset"
	"tracery/earley"
	"tracery/facts"
)

// anyGram is a grammar of a few nonterminals and short rules, often with a byte in each, so that not too many are cyclic.
func anyGram(r *rand.Rand) api.Gram {
	g := api.Gram{Nts: 1 + r.Intn(4)}
	g.Start = r.Intn(g.Nts)
	for range r.Intn(9) {
		rule := api.Rule{Lhs: r.Intn(g.Nts)}
		for range r.Intn(4) {
			rule.Rhs = append(rule.Rhs, anySym(r, g.Nts))
		}
		g.Rules = append(g.Rules, rule)
	}
	return g
}

func anySym(r *rand.Rand, nts int) api.KSym {
	if r.Intn(2) == 0 {
		return api.KSym{Nt: r.Intn(nts)}
	}
	s := api.KSym{Nt: -1}
	for range (r.Intn(7) + 4) / 5 {
		s.Set = charset.Union(s.Set, charset.Of("ab"[r.Intn(2)]))
	}
	return s
}

func anyText(r *rand.Rand) string {
	text := ""
	for range r.Intn(6) {
		text += string("aaab"[r.Intn(4)])
	}
	return text
}

// words is the document's words of a text: what derives what, and which rows of trees there are, in their order.
type words struct {
	g     api.Gram
	w     string
	spans []map[api.Run]int
}

func newWords(g api.Gram, w string) words {
	x := words{g: g, w: w}
	for nt := range g.Nts {
		runs, _ := earley.Spans(g, []byte(w), nt)
		set := map[api.Run]int{}
		for _, run := range runs {
			set[run] = 1
		}
		x.spans = append(x.spans, set)
	}
	return x
}

func (x words) symbolDerives(s api.KSym, from, to int) bool {
	if s.Nt < 0 {
		return to == from+1 && charset.Has(s.Set, x.w[from])
	}
	return x.spans[s.Nt][api.Run{Lo: from, Hi: to}] > 0
}

func (x words) rowDerives(rhs []api.KSym, from, to int) bool {
	if len(rhs) == 0 {
		return from == to
	}
	return len(x.mids(rhs, from, to)) > 0
}

// mids is the places up to which all symbols but the last one reach.
func (x words) mids(rhs []api.KSym, from, to int) []int {
	var list []int
	last := len(rhs) - 1
	for m := from; m <= to; m++ {
		if x.symbolDerives(rhs[last], m, to) && x.rowDerives(rhs[:last], from, m) {
			list = append(list, m)
		}
	}
	return list
}

func (x words) symbolTrees(s api.KSym, from, to int) []api.Tree {
	if s.Nt < 0 {
		return []api.Tree{{Rule: -1, Byte: x.w[from]}}
	}
	var list []api.Tree
	for r, rule := range x.g.Rules {
		if rule.Lhs == s.Nt && x.rowDerives(rule.Rhs, from, to) {
			for _, row := range x.rows(rule.Rhs, from, to) {
				list = append(list, api.Tree{Rule: r, Kids: row})
			}
		}
	}
	return list
}

func (x words) rows(rhs []api.KSym, from, to int) [][]api.Tree {
	if len(rhs) == 0 {
		return [][]api.Tree{nil}
	}
	var list [][]api.Tree
	last := len(rhs) - 1
	for _, m := range x.mids(rhs, from, to) {
		kids := x.symbolTrees(rhs[last], m, to)
		for _, row := range x.rows(rhs[:last], from, m) {
			for _, kid := range kids {
				list = append(list, append(slices.Clone(row), kid))
			}
		}
	}
	return list
}

// trees is all trees of the text.
func (x words) trees() []api.Tree {
	start := api.KSym{Nt: x.g.Start}
	if !x.symbolDerives(start, 0, len(x.w)) {
		return nil
	}
	return x.symbolTrees(start, 0, len(x.w))
}

type key struct{ nt, rule, dot, from, to int }

// forest is the forest of the text.
func (x words) forest() api.Forest {
	if !x.symbolDerives(api.KSym{Nt: x.g.Start}, 0, len(x.w)) {
		return api.Forest{Root: -1}
	}
	number := map[key]int{}
	var keys []key
	of := func(k key) int {
		if _, has := number[k]; !has {
			number[k] = len(keys)
			keys = append(keys, k)
		}
		return number[k]
	}
	of(key{x.g.Start, -1, -1, 0, len(x.w)})
	var f api.Forest
	for i := 0; i < len(keys); i++ {
		k := keys[i]
		n := api.FNode{Nt: k.nt, Rule: k.rule, Dot: k.dot, From: k.from, To: k.to}
		if k.nt >= 0 {
			n.Alts = x.symbolWays(k, of)
		} else {
			n.Alts = x.partWays(k, of)
		}
		f.Nodes = append(f.Nodes, n)
	}
	return f
}

func (x words) symbolWays(k key, of func(k key) int) []api.Alt {
	var list []api.Alt
	for r, rule := range x.g.Rules {
		if rule.Lhs != k.nt || !x.rowDerives(rule.Rhs, k.from, k.to) {
			continue
		}
		a := api.Alt{Rule: r, Left: -1, Right: -1}
		if n := len(rule.Rhs); n > 0 {
			a.Left = of(key{-1, r, n, k.from, k.to})
		}
		list = append(list, a)
	}
	return list
}

func (x words) partWays(k key, of func(k key) int) []api.Alt {
	var list []api.Alt
	rhs := x.g.Rules[k.rule].Rhs[:k.dot]
	for _, m := range x.mids(rhs, k.from, k.to) {
		a := api.Alt{Rule: k.rule, Mid: m, Left: -1, Right: -1}
		if k.dot > 1 {
			a.Left = of(key{-1, k.rule, k.dot - 1, k.from, m})
		}
		if nt := rhs[k.dot-1].Nt; nt >= 0 {
			a.Right = of(key{nt, -1, -1, m, k.to})
		}
		list = append(list, a)
	}
	return list
}

// isOf tells whether a tree is one of a symbol over some first bytes of a text, and how many these are.
func isOf(g api.Gram, s api.KSym, t api.Tree, w string) (int, bool) {
	if s.Nt < 0 {
		return 1, t.Rule == -1 && len(t.Kids) == 0 && w != "" && t.Byte == w[0] && charset.Has(s.Set, t.Byte)
	}
	if t.Rule < 0 || t.Rule >= len(g.Rules) || t.Byte != 0 || g.Rules[t.Rule].Lhs != s.Nt || len(t.Kids) != len(g.Rules[t.Rule].Rhs) {
		return 0, false
	}
	at := 0
	for i, kid := range t.Kids {
		n, is := isOf(g, g.Rules[t.Rule].Rhs[i], kid, w[at:])
		if !is {
			return 0, false
		}
		at += n
	}
	return at, true
}

// P8.2 to P8.5, and P8.7.
func TestByWords(t *testing.T) {
	r := rand.New(rand.NewSource(8))
	count := map[string]int{}
	for range 12000 {
		g, w := anyGram(r), anyText(r)
		if loop, _ := facts.Cyclic(g); loop {
			count["cyclic"]++
			if code := refusedBy(g, []byte(w), 3); code != api.ErrCycle {
				t.Fatalf("%+v: %d", g, code)
			}
			continue
		}
		x := newWords(g, w)
		all := x.trees()
		first := all[:min(len(all), api.MaxTrees)]
		if have, want := tell(t, g, w, api.MaxTrees), (told{forestText(x.forest()), len(all), treeTexts(first)}); have != want {
			t.Fatalf("%+v, %q:\n%+v\n, not\n%+v", g, w, have, want)
		}
		follows(t, g, w, len(all))
		count[map[bool]string{true: "some", false: "none"}[len(all) > 0]]++
		if len(all) > 1 {
			count["more"]++
		}
	}
	for _, kind := range []string{"cyclic", "none", "some", "more"} {
		if count[kind] < 300 {
			t.Errorf("%v", count)
		}
	}
}

// follows looks at what follows of the promises.
func follows(t *testing.T, g api.Gram, w string, n int) {
	t.Helper()
	list, _ := Trees(g, []byte(w), api.MaxTrees)
	texts := map[string]int{}
	for _, tree := range list {
		texts[treeText(tree)]++
		if size, is := isOf(g, api.KSym{Nt: g.Start}, tree, w); !is || size != len(w) {
			t.Fatalf("%+v: %s is no tree of %q", g, treeText(tree), w)
		}
	}
	accepted, _ := earley.Accepts(g, []byte(w))
	if len(texts) != len(list) || len(list) != min(n, api.MaxTrees) || accepted != (n > 0) {
		t.Fatalf("%+v, %q: %d trees, %d of them different, not %d, accepted %v", g, w, len(list), len(texts), n, accepted)
	}
	for _, most := range []int{0, 1, 2, n - 1, n} {
		if most < 0 || most > api.MaxTrees {
			continue
		}
		if some, _ := Trees(g, []byte(w), most); treeTexts(some) != treeTexts(list[:min(most, n)]) {
			t.Fatalf("%+v, %q: the first %d are others", g, w, most)
		}
	}
	f, _ := Build(g, []byte(w))
	places := len(w) + 1
	if nodes, ways := Size(f); nodes+ways > 4*facts.Size(g)*places*places*places {
		t.Fatalf("%+v, %q: %d nodes, %d ways", g, w, nodes, ways)
	}
	for i, node := range f.Nodes {
		if len(node.Alts) == 0 {
			t.Fatalf("%+v, %q: node %d has no way", g, w, i)
		}
	}
}

// P8.8: of two Starts a text has as many trees as all ways to cut it give.
func TestTwice(t *testing.T) {
	r := rand.New(rand.NewSource(88))
	some := 0
	for range 15000 {
		g, w := anyGram(r), anyText(r)
		start := api.KSym{Nt: g.Start}
		two := api.Gram{Nts: g.Nts + 1, Start: g.Nts, Rules: append(slices.Clone(g.Rules), api.Rule{Lhs: g.Nts, Rhs: []api.KSym{start, start}})}
		have, code := Count(two, []byte(w))
		if code == api.ErrCycle {
			continue
		}
		want := 0
		for m := range len(w) + 1 {
			a, _ := Count(g, []byte(w[:m]))
			b, _ := Count(g, []byte(w[m:]))
			want += a * b
		}
		if have != want || code != api.OK {
			t.Fatalf("%+v, %q: %d (%d), not %d", g, w, have, code, want)
		}
		if want > 1 {
			some++
		}
	}
	if some < 300 {
		t.Errorf("only %d have trees", some)
	}
}

// wild fills a value by chance, with little care for what is right.
func wild(v reflect.Value, r *rand.Rand) {
	switch v.Kind() {
	case reflect.Int:
		v.SetInt(int64(r.Intn(5) - 1))
	case reflect.Uint64:
		v.SetUint(uint64(r.Intn(8)) / 7)
	case reflect.Struct:
		for i := range v.NumField() {
			wild(v.Field(i), r)
		}
	case reflect.Array:
		for i := range v.Len() {
			wild(v.Index(i), r)
		}
	case reflect.Slice:
		v.Set(reflect.MakeSlice(v.Type(), r.Intn(4), 6))
		for i := range v.Len() {
			wild(v.Index(i), r)
		}
	}
}

// Hand-made grammars are told of, or refused, and stay as they were; so do hand-made forests.
func TestHandMade(t *testing.T) {
	r := rand.New(rand.NewSource(11))
	count := map[api.Errno]int{}
	for range 20000 {
		var g, before api.Gram
		var f api.Forest
		seed := r.Int63()
		wild(reflect.ValueOf(&g).Elem(), rand.New(rand.NewSource(seed)))
		wild(reflect.ValueOf(&before).Elem(), rand.New(rand.NewSource(seed)))
		wild(reflect.ValueOf(&f).Elem(), r)
		w := strings.Map(func(c rune) rune { return c % 3 * 64 }, anyText(r))
		code := facts.Right(g)
		if loop, _ := facts.Cyclic(g); loop {
			code = api.ErrCycle
		}
		count[code]++
		if code != api.OK {
			if have := refusedBy(g, []byte(w), 3); have != code {
				t.Fatalf("%+v: %d, not %d", g, have, code)
			}
		} else if have, want := tell(t, g, w, 1), forestText(newWords(g, w).forest()); have.forest != want {
			t.Fatalf("%+v, %q:\n%s\n, not\n%s", g, w, have.forest, want)
		}
		if !reflect.DeepEqual(g, before) {
			t.Fatalf("%+v has changed, it was %+v", g, before)
		}
		ways := 0
		for _, n := range f.Nodes {
			ways += len(n.Alts)
		}
		if n, m := Size(f); n != len(f.Nodes) || m != ways {
			t.Fatalf("%+v: %d %d", f, n, m)
		}
	}
	if count[api.OK] < 500 || count[api.ErrForm] < 1000 || count[api.ErrCycle] < 10 {
		t.Errorf("%v", count)
	}
}
