package ambig

import (
	"math/rand"
	"reflect"
	"slices"
	"testing"

	"tracery/api"
	"tracery/charset"
	"tracery/facts"
	"tracery/filter"
	"tracery/forest"
)

// letters are the bytes of the grammars here.
const letters = "abcd"

// others are the bytes of the texts here: letters, and some beside them.
const others = letters + "x\x00\xff"

// anySet has bytes that stand together, mostly both of a pair.
func anySet(r *rand.Rand, from string) api.Set {
	var s api.Set
	for range (r.Intn(8) + 3) / 4 {
		at := r.Intn(len(from))
		s = charset.Union(s, charset.Of(from[at]))
		if r.Intn(8) > 0 {
			s = charset.Union(s, charset.Of(from[min(at^1, len(from)-1)]))
		}
	}
	return s
}

// anyGram is a grammar of a few nonterminals and short rules.
func anyGram(r *rand.Rand) api.Gram {
	g := api.Gram{Nts: 1 + r.Intn(4)}
	g.Start = r.Intn(g.Nts)
	for range r.Intn(9) {
		rule := api.Rule{Lhs: r.Intn(g.Nts)}
		for range r.Intn(4) {
			s := api.KSym{Nt: r.Intn(g.Nts)}
			if r.Intn(3) > 0 {
				s = api.KSym{Nt: -1, Set: anySet(r, letters)}
			}
			rule.Rhs = append(rule.Rhs, s)
		}
		g.Rules = append(g.Rules, rule)
	}
	return g
}

// anyFilters is right for a grammar.
func anyFilters(r *rand.Rand, g api.Gram) api.Filters {
	var f api.Filters
	for range r.Intn(6) {
		if len(g.Rules) == 0 {
			break
		}
		b := ban(r.Intn(len(g.Rules)), 0, r.Intn(len(g.Rules)))
		if n := len(g.Rules[b.Rule].Rhs); n > 0 {
			b.Pos = r.Intn(n)
			f.Bans = append(f.Bans, b)
		}
	}
	for range r.Intn(g.Nts+1) * r.Intn(2) {
		f.Follow = append(f.Follow, anySet(r, others))
	}
	for range r.Intn(g.Nts+1) * r.Intn(2) {
		f.Reject = append(f.Reject, max(-1, r.Intn(3*g.Nts)-2*g.Nts))
	}
	return f
}

// anyPair is a grammar that is not cyclic, and filters.
func anyPair(r *rand.Rand) (api.Gram, api.Filters) {
	for {
		g := anyGram(r)
		if loop, _ := facts.Cyclic(g); !loop {
			return g, anyFilters(r, g)
		}
	}
}

// isAlike is the document's words of two bytes.
func isAlike(g api.Gram, f api.Filters, a, b byte) bool {
	for _, rule := range g.Rules {
		for _, s := range rule.Rhs {
			if charset.Has(s.Set, a) != charset.Has(s.Set, b) {
				return false
			}
		}
	}
	for _, s := range f.Follow {
		if charset.Has(s, a) != charset.Has(s, b) {
			return false
		}
	}
	return true
}

// slowSign is the least byte that is alike to another one.
func slowSign(g api.Gram, f api.Filters, b byte) byte {
	for a := range 256 {
		if isAlike(g, f, byte(a), b) {
			return byte(a)
		}
	}
	panic("a byte is not alike to itself")
}

func slowSigns(g api.Gram, f api.Filters) string {
	list := ""
	for b := range 256 {
		has := slices.ContainsFunc(g.Rules, func(rule api.Rule) bool {
			return slices.ContainsFunc(rule.Rhs, func(s api.KSym) bool { return charset.Has(s.Set, byte(b)) })
		})
		if has && slowSign(g, f, byte(b)) == byte(b) {
			list += string([]byte{byte(b)})
		}
	}
	return list
}

// texts is all texts of at most n of these bytes, shorter ones first.
func texts(bytes string, n int) []string {
	list, row := []string{""}, []string{""}
	for range n {
		var next []string
		for _, text := range row {
			for _, b := range []byte(bytes) {
				next = append(next, text+string([]byte{b}))
			}
		}
		row = next
		list = append(list, row...)
	}
	return list
}

// kept counts the trees of a text that are kept, looking at all trees, one by one.
func kept(g api.Gram, f api.Filters, w string) int {
	list, _ := forest.Trees(g, []byte(w), api.MaxTrees)
	if len(list) == api.MaxTrees {
		n, _ := filter.Count(g, f, []byte(w))
		return n
	}
	n := 0
	for _, tree := range list {
		if filter.Ok(g, f, []byte(w), tree) == api.OK {
			n++
		}
	}
	return n
}

// slowSearch is the document's words of a search.
func slowSearch(g api.Gram, f api.Filters, n, budget int) api.Found {
	list := texts(slowSigns(g, f), n)
	for i, word := range list {
		if i == budget {
			return found(api.QExhausted, "", i)
		}
		if kept(g, f, word) >= 2 {
			return found(api.QWitness, word, i+1)
		}
	}
	return found(api.QNone, "", len(list))
}

// P17.1, P17.2 by the words of the chapter.
func TestBySlowWays(t *testing.T) {
	r := rand.New(rand.NewSource(17))
	kinds := map[int]int{}
	for range 6000 {
		g, f := anyPair(r)
		list, e1 := Signs(g, f)
		if string(list) != slowSigns(g, f) || e1 != api.OK {
			t.Fatalf("%+v, %+v: %q, not %q", g, f, list, slowSigns(g, f))
		}
		var mapped []byte
		for b := range 256 {
			mapped = append(mapped, slowSign(g, f, byte(b)))
		}
		if have, e := Map(g, f, []byte(all())); string(have) != string(mapped) || e != api.OK {
			t.Fatalf("%+v, %+v: %q, not %q", g, f, have, mapped)
		}
		n, budget := r.Intn(5), r.Intn(60)
		want := slowSearch(g, f, n, budget)
		have, e2 := Search(g, f, n, budget)
		if !same(have, want) || e2 != api.OK {
			t.Fatalf("%+v, %+v, %d, %d: %+v, not %+v", g, f, n, budget, have, want)
		}
		kinds[have.Kind]++
	}
	if kinds[api.QNone] < 500 || kinds[api.QWitness] < 500 || kinds[api.QExhausted] < 500 {
		t.Errorf("%v", kinds)
	}
}

// P17.3: a text has as many trees that are kept as its Map.
func TestMapKeepsTrees(t *testing.T) {
	r := rand.New(rand.NewSource(18))
	count := 0
	for range 6000 {
		g, f := anyPair(r)
		for range 10 {
			var text []byte
			for range r.Intn(4) {
				text = append(text, others[r.Intn(len(others))])
			}
			w := string(text)
			mapped, _ := Map(g, f, text)
			have, want := kept(g, f, string(mapped)), kept(g, f, w)
			if have != want {
				t.Fatalf("%+v, %+v: %q has %d, %q has %d", g, f, w, want, mapped, have)
			}
			if again, _ := Map(g, f, mapped); string(again) != string(mapped) {
				t.Fatalf("%+v, %+v: %q, %q", g, f, mapped, again)
			}
			if have > 0 && string(mapped) != w {
				count++
			}
		}
	}
	if count < 300 {
		t.Errorf("only %d texts that are not their Map have trees", count)
	}
}

// P17.4, P17.5: no text that is shorter than a witness has two trees, and none of n bytes, if there is no witness, whatever its bytes.
func TestWhatSearchesMean(t *testing.T) {
	r := rand.New(rand.NewSource(19))
	kinds := map[int]int{}
	for range 2500 {
		g, f := anyPair(r)
		n := r.Intn(5)
		x, code := Search(g, f, n, 100000)
		if code != api.OK || x.Kind == api.QExhausted {
			t.Fatalf("%+v, %+v: %+v %d", g, f, x, code)
		}
		kinds[x.Kind]++
		if x.Kind == api.QWitness {
			if len(x.Word) > n || kept(g, f, string(x.Word)) < 2 {
				t.Fatalf("%+v, %+v: %q is no witness", g, f, x.Word)
			}
			n = len(x.Word) - 1
		}
		if n < 0 {
			continue
		}
		for _, w := range texts(others[:5], n) {
			if kept(g, f, w) >= 2 {
				t.Fatalf("%+v, %+v: %q has two trees, behind %+v", g, f, w, x)
			}
		}
	}
	if kinds[api.QNone] < 200 || kinds[api.QWitness] < 200 {
		t.Errorf("%v", kinds)
	}
}

// P17.6: a budget of all words is enough, and a greater one tells the same.
func TestBudgets(t *testing.T) {
	r := rand.New(rand.NewSource(20))
	for range 500 {
		g, f := anyPair(r)
		n := r.Intn(4)
		list, _ := Signs(g, f)
		count := len(texts(string(list), n))
		whole, _ := Search(g, f, n, count)
		if whole.Kind == api.QExhausted || whole.Tried > count || whole.Kind == api.QNone && whole.Tried != count {
			t.Fatalf("%+v, %+v: %+v of %d words", g, f, whole, count)
		}
		for _, budget := range []int{0, 1, whole.Tried - 1, whole.Tried, whole.Tried + 1, count - 1, count + 1, 2 * count, 100000} {
			want := whole
			if budget < whole.Tried {
				want = found(api.QExhausted, "", budget)
			}
			if have, code := Search(g, f, n, budget); !same(have, want) || code != api.OK {
				t.Fatalf("%+v, %+v, budget %d: %+v, not %+v (%d)", g, f, budget, have, want, code)
			}
		}
	}
}

// wild fills a value by chance, with little care for what is right.
func wild(v reflect.Value, r *rand.Rand) {
	switch v.Kind() {
	case reflect.Int:
		v.SetInt(int64(r.Intn(4) - 1))
	case reflect.Uint64:
		v.SetUint(uint64(r.Intn(8)) / 6)
	case reflect.Struct:
		for i := range v.NumField() {
			wild(v.Field(i), r)
		}
	case reflect.Array:
		for i := range v.Len() {
			wild(v.Index(i), r)
		}
	case reflect.Slice:
		v.Set(reflect.MakeSlice(v.Type(), r.Intn(3), 6))
		for i := range v.Len() {
			wild(v.Index(i), r)
		}
	}
}

// given is what is handed in.
type given struct {
	g api.Gram
	f api.Filters
}

func anyGiven(seed int64) given {
	r := rand.New(rand.NewSource(seed))
	var x given
	wild(reflect.ValueOf(&x.g).Elem(), r)
	wild(reflect.ValueOf(&x.f).Elem(), r)
	return x
}

// Hand-made grammars and filters are told of, or refused, and stay as they were.
func TestHandMade(t *testing.T) {
	r := rand.New(rand.NewSource(21))
	count := map[api.Errno]int{}
	for range 60000 {
		seed := r.Int63()
		x, before := anyGiven(seed), anyGiven(seed)
		n, budget := r.Intn(5)-1, r.Intn(40)-3
		code := filter.Right(x.g, x.f)
		if code != api.OK {
			if have := refusedBy(x.g, x.f, []byte("@"), n, budget); have != code {
				t.Fatalf("%+v: %d, not %d", x, have, code)
			}
		} else {
			list, e1 := Signs(x.g, x.f)
			_, e2 := Map(x.g, x.f, list)
			if e1 != api.OK || e2 != api.OK || string(list) != slowSigns(x.g, x.f) {
				t.Fatalf("%+v: %q %d %d", x, list, e1, e2)
			}
			if loop, _ := facts.Cyclic(x.g); loop {
				code = api.ErrCycle
			} else if n < 0 || budget < 0 {
				code = api.ErrArg
			}
			have, e := Search(x.g, x.f, n, budget)
			if e != code || e != api.OK && !same(have, api.Found{}) || e == api.OK && !same(have, slowSearch(x.g, x.f, n, budget)) {
				t.Fatalf("%+v, %d, %d: %+v %d", x, n, budget, have, e)
			}
		}
		count[code]++
		if !reflect.DeepEqual(x, before) {
			t.Fatalf("%+v has changed, it was %+v", x, before)
		}
	}
	if count[api.OK] < 500 || count[api.ErrForm] < 1000 || count[api.ErrCycle] < 10 || count[api.ErrArg] < 100 {
		t.Errorf("%v", count)
	}
}
