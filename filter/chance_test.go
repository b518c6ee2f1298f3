package filter

import (
	"fmt"
	"math/rand"
	"reflect"
	"slices"
	"strings"
	"testing"

	"tracery/api"
	"tracery/charset"
	"tracery/defs"
	"tracery/facts"
	"tracery/forest"
	"tracery/kernel"
	"tracery/trees"
)

// anyGram is a grammar of a few nonterminals and short rules, often with a byte in each, so that not too many are cyclic.
func anyGram(r *rand.Rand) api.Gram {
	g := api.Gram{Nts: 1 + r.Intn(4)}
	g.Start = r.Intn(g.Nts)
	for range r.Intn(10) {
		rule := api.Rule{Lhs: r.Intn(g.Nts)}
		for range r.Intn(4) {
			rule.Rhs = append(rule.Rhs, anySym(r, g.Nts))
		}
		g.Rules = append(g.Rules, rule)
	}
	return g
}

func anySym(r *rand.Rand, nts int) api.KSym {
	if r.Intn(2) == 0 {
		return api.KSym{Nt: r.Intn(nts)}
	}
	s := api.KSym{Nt: -1}
	for range (r.Intn(7) + 4) / 5 {
		s.Set = charset.Union(s.Set, charset.Of("ab"[r.Intn(2)]))
	}
	return s
}

func anyText(r *rand.Rand) string {
	text := ""
	for range r.Intn(6) {
		text += string("aaab"[r.Intn(4)])
	}
	return text
}

// anyFilters is right for a grammar, and leaves mostly something of it.
func anyFilters(r *rand.Rand, g api.Gram) api.Filters {
	var f api.Filters
	for range r.Intn(7) {
		if b, ok := anyBan(r, g); ok {
			f.Bans = append(f.Bans, b)
		}
	}
	for range r.Intn(g.Nts+1) * r.Intn(2) {
		f.Follow = append(f.Follow, [...]api.Set{2: charset.Of('a'), 3: charset.Of('b')}[r.Intn(4)])
	}
	for range r.Intn(g.Nts+1) * r.Intn(2) {
		f.Reject = append(f.Reject, max(-1, r.Intn(4*g.Nts)-3*g.Nts))
	}
	return f
}

func anyBan(r *rand.Rand, g api.Gram) (api.Ban, bool) {
	if len(g.Rules) == 0 {
		return api.Ban{}, false
	}
	b := api.Ban{Rule: r.Intn(len(g.Rules)), Kid: r.Intn(len(g.Rules))}
	n := len(g.Rules[b.Rule].Rhs)
	if n == 0 {
		return api.Ban{}, false
	}
	b.Pos = r.Intn(n)
	for range 5 {
		if g.Rules[b.Kid].Lhs != g.Rules[b.Rule].Rhs[b.Pos].Nt {
			b.Kid = r.Intn(len(g.Rules)) // such a ban says nothing: not too many of them
		}
	}
	return b, true
}

// someText is a text with two trees, if a few tries come upon one.
func someText(r *rand.Rand, g api.Gram) string {
	best, most := anyText(r), 0
	for range 8 {
		w := anyText(r)
		if n, _ := forest.Count(g, []byte(w)); n > most {
			best, most = w, min(n, 2)
		}
	}
	return best
}

// words is the document's words of a text: what derives what, which rows of trees there are, in their order, and which are kept.
type words struct {
	g       api.Gram
	f       api.Filters
	w       string
	derived map[[3]int]int // nonterminal, from, to
	alive   map[string]int // of a node 1, if it has no way, 2, if it has
}

func newWords(g api.Gram, f api.Filters, w string) *words {
	x := &words{g, f, w, map[[3]int]int{}, map[string]int{}}
	for n := -1; n != len(x.derived); { // till nothing is new
		n = len(x.derived)
		for _, rule := range g.Rules {
			for from := range len(w) + 1 {
				ends := []int{from}
				for _, s := range rule.Rhs {
					ends = x.ends(s, ends)
				}
				for _, to := range ends {
					x.derived[[3]int{rule.Lhs, from, to}] = 1
				}
			}
		}
	}
	return x
}

// ends is up to where a symbol may reach that begins at one of these places.
func (x *words) ends(s api.KSym, begins []int) []int {
	var list []int
	for to := range len(x.w) + 1 {
		if slices.ContainsFunc(begins, func(from int) bool { return x.symbolDerives(s, from, to) }) {
			list = append(list, to)
		}
	}
	return list
}

func (x *words) symbolDerives(s api.KSym, from, to int) bool {
	if s.Nt < 0 {
		return to == from+1 && charset.Has(s.Set, x.w[from])
	}
	return x.derived[[3]int{s.Nt, from, to}] > 0
}

func (x *words) rowDerives(rhs []api.KSym, from, to int) bool {
	ends := []int{from}
	for _, s := range rhs {
		ends = x.ends(s, ends)
	}
	return slices.Contains(ends, to)
}

func (x *words) symbolTrees(s api.KSym, from, to int) []api.Tree {
	if s.Nt < 0 {
		return []api.Tree{{Rule: -1, Byte: x.w[from]}}
	}
	var list []api.Tree
	for r, rule := range x.g.Rules {
		if rule.Lhs == s.Nt && x.rowDerives(rule.Rhs, from, to) {
			for _, row := range x.rows(rule.Rhs, from, to) {
				list = append(list, api.Tree{Rule: r, Kids: row})
			}
		}
	}
	return list
}

func (x *words) rows(rhs []api.KSym, from, to int) [][]api.Tree {
	if len(rhs) == 0 {
		return [][]api.Tree{nil}
	}
	var list [][]api.Tree
	last := len(rhs) - 1
	for m := from; m <= to; m++ {
		if !x.symbolDerives(rhs[last], m, to) || !x.rowDerives(rhs[:last], from, m) {
			continue
		}
		kids := x.symbolTrees(rhs[last], m, to)
		for _, row := range x.rows(rhs[:last], from, m) {
			for _, kid := range kids {
				list = append(list, append(slices.Clone(row), kid))
			}
		}
	}
	return list
}

// trees is all trees of the text, kept or not.
func (x *words) trees() []api.Tree {
	start := api.KSym{Nt: x.g.Start}
	if !x.symbolDerives(start, 0, len(x.w)) {
		return nil
	}
	return x.symbolTrees(start, 0, len(x.w))
}

func (x *words) isFollowed(nt, to int) bool {
	return to < len(x.w) && nt < len(x.f.Follow) && charset.Has(x.f.Follow[nt], x.w[to])
}

func (x *words) isRejected(nt, from, to int) bool {
	return nt < len(x.f.Reject) && x.f.Reject[nt] != -1 && x.symbolDerives(api.KSym{Nt: x.f.Reject[nt]}, from, to)
}

// why is the first thing that is not as it is kept in a tree that begins at a place.
func (x *words) why(t api.Tree, from int) api.Errno {
	if t.Rule == -1 {
		return api.OK
	}
	nt, to := x.g.Rules[t.Rule].Lhs, from+len(trees.Yield(t))
	if x.isFollowed(nt, to) {
		return api.ErrFoll
	}
	if x.isRejected(nt, from, to) {
		return api.ErrRej
	}
	for i, kid := range t.Kids {
		if kid.Rule != -1 && slices.Contains(x.f.Bans, api.Ban{Rule: t.Rule, Pos: i, Kid: kid.Rule}) {
			return api.ErrBan
		}
	}
	for _, kid := range t.Kids {
		if code := x.why(kid, from); code != api.OK {
			return code
		}
		from += len(trees.Yield(kid))
	}
	return api.OK
}

// spec is a node of the filtered forest; its bans are numbers in a text.
type spec struct {
	nt, rule, dot, from, to int
	ban                     string
}

// banAt is the rules of the nonterminal at a place of a rule that bans name, rising.
func (x *words) banAt(rule, pos int) string {
	var list []int
	for kid := range x.g.Rules {
		if slices.Contains(x.f.Bans, api.Ban{Rule: rule, Pos: pos, Kid: kid}) && x.g.Rules[kid].Lhs == x.g.Rules[rule].Rhs[pos].Nt {
			list = append(list, kid)
		}
	}
	if list == nil {
		return ""
	}
	return fmt.Sprint(list)
}

// way is a way of a node; what stands to its left and right may be nil.
type way struct {
	rule, mid   int
	left, right *spec
}

// ways is all ways of a node, those to nodes without ways too.
func (x *words) ways(k spec) []way {
	var list []way
	if k.nt >= 0 {
		for r, rule := range x.g.Rules {
			if rule.Lhs != k.nt || slices.Contains(strings.Fields(strings.Trim(k.ban, "[]")), fmt.Sprint(r)) || !x.rowDerives(rule.Rhs, k.from, k.to) {
				continue
			}
			a := way{rule: r}
			if n := len(rule.Rhs); n > 0 {
				a.left = &spec{-1, r, n, k.from, k.to, ""}
			}
			list = append(list, a)
		}
		return list
	}
	rhs := x.g.Rules[k.rule].Rhs
	for m := k.from; m <= k.to; m++ {
		if !x.rowDerives(rhs[:k.dot-1], k.from, m) || !x.symbolDerives(rhs[k.dot-1], m, k.to) {
			continue
		}
		a := way{rule: k.rule, mid: m}
		if k.dot > 1 {
			a.left = &spec{-1, k.rule, k.dot - 1, k.from, m, ""}
		}
		if nt := rhs[k.dot-1].Nt; nt >= 0 {
			a.right = &spec{nt, -1, -1, m, k.to, x.banAt(k.rule, k.dot-1)}
		}
		list = append(list, a)
	}
	return list
}

// isThere tells whether a node is against no Follow and Reject, and has a way whose nodes are there.
func (x *words) isThere(k *spec) bool {
	if k == nil {
		return true
	}
	text := fmt.Sprint(*k)
	if x.alive[text] == 0 {
		x.alive[text] = 1
		if k.nt < 0 || !x.isFollowed(k.nt, k.to) && !x.isRejected(k.nt, k.from, k.to) {
			for _, a := range x.ways(*k) {
				if x.isThere(a.left) && x.isThere(a.right) {
					x.alive[text] = 2
				}
			}
		}
	}
	return x.alive[text] == 2
}

// forest is the text of the filtered forest.
func (x *words) forest() string {
	root := spec{x.g.Start, -1, -1, 0, len(x.w), ""}
	if !x.symbolDerives(api.KSym{Nt: x.g.Start}, 0, len(x.w)) || !x.isThere(&root) {
		return "-1"
	}
	number := map[spec]int{}
	var list []spec
	of := func(k *spec) int {
		if k == nil {
			return -1
		}
		if _, has := number[*k]; !has {
			number[*k] = len(list)
			list = append(list, *k)
		}
		return number[*k]
	}
	of(&root)
	text := "0"
	for i := 0; i < len(list); i++ {
		k := list[i]
		n := api.FNode{Nt: k.nt, Rule: k.rule, Dot: k.dot, From: k.from, To: k.to}
		for _, a := range x.ways(k) {
			if x.isThere(a.left) && x.isThere(a.right) {
				left := of(a.left)
				n.Alts = append(n.Alts, api.Alt{Rule: a.rule, Mid: a.mid, Left: left, Right: of(a.right)})
			}
		}
		text += "\n" + strings.Replace(nodeText(n), ":", k.ban+":", 1)
	}
	return text
}

// P10.1 to P10.5, and P10.7.
func TestByWords(t *testing.T) {
	r := rand.New(rand.NewSource(10))
	count := map[string]int{}
	for range 15000 {
		g := anyGram(r)
		w := someText(r, g)
		f := anyFilters(r, g)
		if loop, _ := facts.Cyclic(g); loop {
			count["cyclic"]++
			if code := refusedBy(g, f, []byte(w), 3); code != api.ErrCycle {
				t.Fatalf("%+v: %d", g, code)
			}
			continue
		}
		if n, _ := forest.Count(g, []byte(w)); n > 2*api.MaxTrees {
			continue // too many to be looked at one by one
		}
		x := newWords(g, f, w)
		all := x.trees()
		var kept []api.Tree
		for _, tree := range all {
			code := x.why(tree, 0)
			count[fmt.Sprint(code)]++
			if have := Ok(g, f, []byte(w), tree); have != code {
				t.Fatalf("%+v, %+v, %q, %s: %d, not %d", g, f, w, treeText(tree), have, code)
			}
			if code == api.OK {
				kept = append(kept, tree)
			}
		}
		first := kept[:min(len(kept), api.MaxTrees)]
		if have, want := tell(t, g, f, w, api.MaxTrees), (told{x.forest(), len(kept), treeTexts(first)}); have != want {
			t.Fatalf("%+v, %+v, %q:\n%+v\n, not\n%+v", g, f, w, have, want)
		}
		follows(t, r, g, f, w, first)
		count[map[bool]string{true: "some", false: "none"}[len(kept) > 0]]++
		if len(kept) > 1 {
			count["more"]++
		}
		if len(kept) > 0 && len(kept) < len(all) {
			count["fewer"]++
		}
	}
	for _, kind := range []string{"cyclic", "none", "some", "more", "fewer", "0", "100", "101", "102"} {
		if count[kind] < 200 {
			t.Errorf("%s: %v", kind, count)
		}
	}
}

// follows looks at what follows of the promises.
func follows(t *testing.T, r *rand.Rand, g api.Gram, f api.Filters, w string, kept []api.Tree) {
	t.Helper()
	x, _ := Build(g, f, []byte(w))
	for i, n := range x.Nodes {
		if len(n.Alts) == 0 {
			t.Fatalf("%+v, %+v, %q: node %d has no way", g, f, w, i)
		}
	}
	if x.Root == 0 {
		if n := unpacked(x, 0, map[int]int{}); n < api.MaxTrees && n != len(kept) {
			t.Fatalf("%+v, %+v, %q: the forest has %d trees, not %d", g, f, w, n, len(kept))
		}
	}
	for _, most := range []int{0, 1, len(kept) / 2, len(kept)} {
		if some, _ := Trees(g, f, []byte(w), most); treeTexts(some) != treeTexts(kept[:min(most, len(kept))]) {
			t.Fatalf("%+v, %+v, %q: the first %d are others", g, f, w, most)
		}
	}
	if b, ok := anyBan(r, g); ok && len(kept) < api.MaxTrees {
		more := f
		more.Bans = append(slices.Clone(f.Bans), b)
		less, _ := Trees(g, more, []byte(w), api.MaxTrees)
		if !isPartOf(less, kept) {
			t.Fatalf("%+v, %+v, %q: with %v more %s, not only some of %s", g, f, w, b, treeTexts(less), treeTexts(kept))
		}
	}
	whole, e1 := forest.Trees(g, []byte(w), api.MaxTrees)
	packed, e2 := forest.Build(g, []byte(w))
	n, e3 := forest.Count(g, []byte(w))
	if e1 != api.OK || e2 != api.OK || e3 != api.OK {
		t.Fatal(e1, e2, e3)
	}
	if have, want := tell(t, g, api.Filters{}, w, api.MaxTrees), (told{forestText(packed), n, treeTexts(whole)}); have != want {
		t.Fatalf("%+v, %q without filters:\n%+v\n, not\n%+v", g, w, have, want)
	}
}

// unpacked is how many trees, or rows of trees, lie below a node; met are those that were looked at.
func unpacked(f api.Forest, number int, met map[int]int) int {
	if number < 0 {
		return 1
	}
	if n, has := met[number]; has {
		return n
	}
	total := 0
	for _, a := range f.Nodes[number].Alts {
		total += unpacked(f, a.Left, met) * unpacked(f, a.Right, met)
	}
	met[number] = total
	return total
}

// isPartOf tells whether a list is another one, with some of it left out.
func isPartOf(less, list []api.Tree) bool {
	at := 0
	for _, tree := range list {
		if at < len(less) && trees.Same(less[at], tree) {
			at++
		}
	}
	return at == len(less)
}

// P10.6: of n operands with one operator between them.
func TestAssociativity(t *testing.T) {
	catalan := []int{0, 1, 1, 2, 5, 14, 42, 132, 429, 1430, 4862, 16796}
	for assoc, count := range map[string]func(n int) int{
		"prio left Add;":  func(n int) int { return 1 },
		"prio right Add;": func(n int) int { return 1 },
		"prio Add;":       func(n int) int { return catalan[n] },
		"":                func(n int) int { return catalan[n] },
		"prio non Add;":   func(n int) int { return max(0, 3-n) / max(1, 3-n) },
	} {
		for _, layout := range []string{"", `layout W; lex W = " ";`} {
			d, fault := defs.Parse(`start E; cf E.Add = E "+" E; cf E.Num = N; lex N = [0-9];` + layout + assoc)
			k, code := kernel.Make(d)
			if fault.Code != api.OK || code != api.OK {
				t.Fatal(fault, code)
			}
			for n := 1; n < len(catalan); n++ {
				w := strings.Repeat("1+", n-1) + "1"
				if have, code := Count(k.Gram, k.Filters, []byte(w)); have != count(n) || code != api.OK {
					t.Errorf("%q of %d: %d, not %d (%d)", assoc, n, have, count(n), code)
				}
			}
		}
	}
}

// P4: the trees of a definition's texts that are told are just those that are kept, each once.
func TestDefinition(t *testing.T) {
	d, fault := defs.Parse(`start E; layout W; cf E.Add = E "+" E; cf E.Mul = E "*" E; cf E.Neg = "-" E; cf E.Num = N; cf E.Id = I; cf E = "(" E ")" bracket; lex N = [0-9]+; lex I = [a-z]+; lex K = "if" | "do"; lex W = [\s\n]; prio left Mul > left Add; follow N [0-9]; follow I [a-z]; reject I K;`)
	k, code := kernel.Make(d)
	if fault.Code != api.OK || code != api.OK {
		t.Fatal(fault, code)
	}
	for w, want := range map[string]int{
		"1+2*3": 1, "1+2+3": 1, "(1+2)*3": 1, "12": 1, "1+": 0, "1 2": 0, "1*2+3*4": 1, "1*(2+3)*4": 1, "-1+2": 2, "- 1 * 2 + 3": 3, "a+if": 0, "iff + do1": 0, "if": 0, "i f": 0, "ifdo+ id": 1, "": 0, " 1\n": 1,
	} {
		all, e1 := forest.Trees(k.Gram, []byte(w), api.MaxTrees)
		list, e2 := Trees(k.Gram, k.Filters, []byte(w), api.MaxTrees)
		n, e3 := Count(k.Gram, k.Filters, []byte(w))
		if e1 != api.OK || e2 != api.OK || e3 != api.OK || n != want || len(list) != want || len(all) == api.MaxTrees {
			t.Errorf("%q: %d trees, told %d, not %d (%d %d %d)", w, n, len(list), want, e1, e2, e3)
		}
		x := newWords(k.Gram, k.Filters, w)
		kept := slices.DeleteFunc(all, func(tree api.Tree) bool {
			code := Ok(k.Gram, k.Filters, []byte(w), tree)
			if code != x.why(tree, 0) {
				t.Errorf("%q, %s: %d", w, treeText(tree), code)
			}
			return code != api.OK
		})
		if treeTexts(kept) != treeTexts(list) {
			t.Errorf("%q: %s, not %s", w, treeTexts(list), treeTexts(kept))
		}
	}
}

// wild fills a value by chance, with little care for what is right.
func wild(v reflect.Value, r *rand.Rand) {
	switch v.Kind() {
	case reflect.Int:
		v.SetInt(int64(r.Intn(4) - 1))
	case reflect.Uint8:
		v.SetUint(uint64(r.Intn(2) * 64))
	case reflect.Uint64:
		v.SetUint(uint64(r.Intn(8)) / 7)
	case reflect.Struct:
		for i := range v.NumField() {
			wild(v.Field(i), r)
		}
	case reflect.Array:
		for i := range v.Len() {
			wild(v.Index(i), r)
		}
	case reflect.Slice:
		n := r.Intn(3)
		if v.Type() == reflect.TypeFor[[]api.Tree]() {
			n /= 1 + r.Intn(2)
		}
		v.Set(reflect.MakeSlice(v.Type(), n, 6))
		for i := range v.Len() {
			wild(v.Index(i), r)
		}
	}
}

// given is what is handed in.
type given struct {
	g api.Gram
	f api.Filters
	t api.Tree
}

func anyGiven(seed int64) given {
	r := rand.New(rand.NewSource(seed))
	var x given
	wild(reflect.ValueOf(&x.g).Elem(), r)
	wild(reflect.ValueOf(&x.f).Elem(), r)
	wild(reflect.ValueOf(&x.t).Elem(), r)
	return x
}

// isRight is the document's words of filters and a grammar, said by lists.
func isRight(g api.Gram, f api.Filters) bool {
	if facts.Right(g) != api.OK {
		return false
	}
	var nts, rules []int
	for nt := range g.Nts {
		nts = append(nts, nt)
	}
	for r := range g.Rules {
		rules = append(rules, r)
	}
	for _, b := range f.Bans {
		if !slices.Contains(rules, b.Rule) || !slices.Contains(rules, b.Kid) || b.Pos < 0 || len(g.Rules[b.Rule].Rhs) <= b.Pos {
			return false
		}
	}
	for _, by := range f.Reject {
		if by != -1 && !slices.Contains(nts, by) {
			return false
		}
	}
	return len(f.Follow) <= len(nts) && len(f.Reject) <= len(nts)
}

// Hand-made grammars, filters and trees are told of, or refused, and stay as they were.
func TestHandMade(t *testing.T) {
	r := rand.New(rand.NewSource(11))
	count := map[api.Errno]int{}
	for range 60000 {
		seed := r.Int63()
		x, before := anyGiven(seed), anyGiven(seed)
		w := strings.Map(func(c rune) rune { return c % 3 * 64 }, anyText(r))
		code := api.OK
		if !isRight(x.g, x.f) {
			code = api.ErrForm
		}
		if have := Right(x.g, x.f); have != code {
			t.Fatalf("%+v: %d, not %d", x, have, code)
		}
		ok := Ok(x.g, x.f, []byte(w), x.t)
		if code == api.OK {
			if loop, _ := facts.Cyclic(x.g); loop {
				code = api.ErrCycle
			}
		}
		count[code]++
		if code == api.ErrForm && ok != code || code != api.ErrForm && ok == api.ErrForm {
			t.Fatalf("%+v: Ok %d", x, ok)
		}
		if code != api.OK {
			if have := refusedBy(x.g, x.f, []byte(w), 3); have != code {
				t.Fatalf("%+v: %d, not %d", x, have, code)
			}
		} else if have, want := tell(t, x.g, x.f, w, 1), newWords(x.g, x.f, w).forest(); have.forest != want {
			t.Fatalf("%+v, %q:\n%s\n, not\n%s", x, w, have.forest, want)
		}
		if !reflect.DeepEqual(x, before) {
			t.Fatalf("%+v has changed, it was %+v", x, before)
		}
	}
	if count[api.OK] < 500 || count[api.ErrForm] < 1000 || count[api.ErrCycle] < 10 {
		t.Errorf("%v", count)
	}
}
