package earley

import (
	"math/rand"
	"reflect"
	"slices"
	"strings"
	"testing"

	"tracery/api"
	"tracery/charset"
	"tracery/facts"
)

// anyGram is a grammar of a few nonterminals and short rules.
func anyGram(r *rand.Rand) api.Gram {
	g := api.Gram{Nts: 1 + r.Intn(4)}
	g.Start = r.Intn(g.Nts)
	for range r.Intn(9) {
		rule := api.Rule{Lhs: r.Intn(g.Nts)}
		for range r.Intn(4) {
			rule.Rhs = append(rule.Rhs, anySym(r, g.Nts))
		}
		g.Rules = append(g.Rules, rule)
	}
	return g
}

func anySym(r *rand.Rand, nts int) api.KSym {
	if r.Intn(2) == 0 {
		return api.KSym{Nt: r.Intn(nts)}
	}
	s := api.KSym{Nt: -1}
	for range (r.Intn(7) + 4) / 5 {
		s.Set = charset.Union(s.Set, charset.Of("abc"[r.Intn(3)]))
	}
	return s
}

func anyText(r *rand.Rand) string {
	text := ""
	for range r.Intn(6) {
		text += string("aaabbc"[r.Intn(6)])
	}
	return text
}

// slowChart is the document's words: each of the four rules is looked at, for all items, till no item is new.
func slowChart(g api.Gram, w string) [][]api.EItem {
	sets := make([]map[api.EItem]int, len(w)+1)
	for j := range sets {
		sets[j] = map[api.EItem]int{}
	}
	grown := true
	put := func(j int, item api.EItem) {
		if sets[j][item] == 0 {
			sets[j][item] = 1
			grown = true
		}
	}
	begin := func(j, nt int) {
		for q, rule := range g.Rules {
			if rule.Lhs == nt {
				put(j, api.EItem{Rule: q, From: j})
			}
		}
	}
	begin(0, g.Start)
	for grown {
		grown = false
		for j := range sets {
			for item := range copyOf(sets[j]) {
				rule := g.Rules[item.Rule]
				if item.Dot == len(rule.Rhs) {
					for old := range copyOf(sets[item.From]) {
						if rhs := g.Rules[old.Rule].Rhs; old.Dot < len(rhs) && rhs[old.Dot].Nt == rule.Lhs {
							put(j, api.EItem{Rule: old.Rule, Dot: old.Dot + 1, From: old.From})
						}
					}
				} else if s := rule.Rhs[item.Dot]; s.Nt >= 0 {
					begin(j, s.Nt)
				} else if j < len(w) && charset.Has(s.Set, w[j]) {
					put(j+1, api.EItem{Rule: item.Rule, Dot: item.Dot + 1, From: item.From})
				}
			}
		}
	}
	var chart [][]api.EItem
	for _, set := range sets {
		var list []api.EItem
		for item := range set {
			list = append(list, item)
		}
		slices.SortFunc(list, func(a, b api.EItem) int {
			return slices.Compare([]int{a.Rule, a.Dot, a.From}, []int{b.Rule, b.Dot, b.From})
		})
		chart = append(chart, list)
	}
	return chart
}

func copyOf(set map[api.EItem]int) map[api.EItem]int {
	other := map[api.EItem]int{}
	for item := range set {
		other[item] = 1
	}
	return other
}

// moves tells of each nonterminal from which state to which it leads, if a symbol of a set leads as step says: by looking at all rules till nothing is new.
func moves(g api.Gram, states int, step func(set api.Set, from, to int) bool) [][][]bool {
	way := make([][][]bool, g.Nts)
	for nt := range way {
		way[nt] = make([][]bool, states)
		for i := range way[nt] {
			way[nt][i] = make([]bool, states)
		}
	}
	for grown := true; grown; {
		grown = false
		for _, rule := range g.Rules {
			for from := range states {
				here := make([]bool, states)
				here[from] = true
				for _, s := range rule.Rhs {
					there := make([]bool, states)
					for i := range states {
						for j := range states {
							leads := s.Nt < 0 && step(s.Set, i, j) || s.Nt >= 0 && way[s.Nt][i][j]
							there[j] = there[j] || here[i] && leads
						}
					}
					here = there
				}
				for to, is := range here {
					if is && !way[rule.Lhs][from][to] {
						way[rule.Lhs][from][to] = true
						grown = true
					}
				}
			}
		}
	}
	return way
}

// derives tells of each nonterminal from where to where it derives a text's bytes.
func derives(g api.Gram, w string) [][][]bool {
	return moves(g, len(w)+1, func(set api.Set, from, to int) bool { return to == from+1 && charset.Has(set, w[from]) })
}

// begins tells whether Start derives some text that begins with w: at its end any byte will do.
func begins(g api.Gram, w string) bool {
	n := len(w)
	way := moves(g, n+1, func(set api.Set, from, to int) bool {
		return from == n && to == n && set != api.Set{} || from < n && to == from+1 && charset.Has(set, w[from])
	})
	return way[g.Start][0][n]
}

// slowTell is what the document's words come to.
func slowTell(g api.Gram, w string) told {
	way := derives(g, w)
	want := told{chart: slowChart(g, w), last: -1, accepts: way[g.Start][0][len(w)]}
	for _, set := range want.chart {
		want.items += len(set)
	}
	for j := range len(w) + 1 {
		if begins(g, w[:j]) {
			want.last = j
		}
	}
	var bytes api.Set
	for _, b := range []byte("abcd") {
		if begins(g, w+string(b)) {
			bytes = charset.Union(bytes, charset.Of(b))
		}
	}
	want.next = charset.Print(bytes)
	for nt := range g.Nts {
		var runs []api.Run
		for lo := range len(w) + 1 {
			for hi := lo; hi <= len(w); hi++ {
				if way[nt][lo][hi] {
					runs = append(runs, api.Run{Lo: lo, Hi: hi})
				}
			}
		}
		want.spans = append(want.spans, runs)
	}
	return want
}

func (a told) same(b told) bool {
	return chartText(a.chart) == chartText(b.chart) && a.items == b.items && a.accepts == b.accepts && a.last == b.last && a.next == b.next && spansText(a.spans) == spansText(b.spans)
}

func TestBySlowWays(t *testing.T) {
	r := rand.New(rand.NewSource(7))
	count := map[bool]int{}
	for range 12000 {
		g, w := anyGram(r), anyText(r)
		have, want := tell(t, g, w), slowTell(g, w)
		if !have.same(want) {
			t.Fatalf("%+v, %q:\n%+v\n, not\n%+v", g, w, have, want)
		}
		count[have.accepts]++
	}
	if count[true] < 600 {
		t.Errorf("%v", count)
	}
}

// Texts that are longer than a word has bits.
func TestLongTexts(t *testing.T) {
	r := rand.New(rand.NewSource(64))
	for _, g := range []api.Gram{gram(1, "A>aAa", "A>bAb", "A>", "A>a"), gram(2, "A>AB", "A>B", "B>ab", "B>b", "B>aaA"), gram(2, "A>aB", "A>", "B>Ab", "B>A")} {
		for _, n := range []int{62, 63, 64, 65, 66} {
			text := ""
			for len(text) < n {
				text += string("ab"[r.Intn(2)])
			}
			way := derives(g, text)
			have := tell(t, g, text)
			for nt, runs := range have.spans {
				at := 0
				for lo := range n + 1 {
					for hi := lo; hi <= n; hi++ {
						is := at < len(runs) && runs[at] == api.Run{Lo: lo, Hi: hi}
						if is != way[nt][lo][hi] {
							t.Fatalf("%+v, %q: %d from %d to %d: %v", g, text, nt, lo, hi, is)
						}
						if is {
							at++
						}
					}
				}
			}
			if chart := slowChart(g, text); chartText(have.chart) != chartText(chart) {
				t.Fatalf("%+v, %q:\n%s\n, not\n%s", g, text, chartText(have.chart), chartText(chart))
			}
		}
	}
}

// P7.4, P7.5, P7.7 of what is told.
func TestWhatFollows(t *testing.T) {
	r := rand.New(rand.NewSource(75))
	count := [3]int{}
	for range 6000 {
		g, w := anyGram(r), anyText(r)
		n := len(w)
		have := tell(t, g, w)
		if have.items > facts.Size(g)*(n+1)*(n+2)/2 {
			t.Fatalf("%+v, %q: %d items", g, w, have.items)
		}
		if have.accepts != slices.Contains(have.spans[g.Start], api.Run{Hi: n}) || have.accepts && have.last != n {
			t.Fatalf("%+v, %q: %+v", g, w, have)
		}
		if have.last == n && !have.accepts && have.next == "[]" || have.last < n && have.next != "[]" {
			t.Fatalf("%+v, %q: %+v", g, w, have)
		}
		if j := have.last; j >= 0 {
			if short := tell(t, g, w[:j]); short.last != j {
				t.Fatalf("%+v, %q: Last is %d, of these bytes %d", g, w, j, short.last)
			}
			if other := w[:min(j+1, n)] + anyText(r); j < n && tell(t, g, other).last != j {
				t.Fatalf("%+v, %q: Last is %d, of %q not", g, w, j, other)
			}
		}
		for _, b := range []byte("abc") {
			goes := strings.IndexByte(have.next, b) > 0 || have.next == "[a-c]"
			if more := tell(t, g, w+string(b)); goes != (more.last == n+1) {
				t.Fatalf("%+v, %q: Next is %s, Last with %c %d", g, w, have.next, b, more.last)
			}
		}
		count[min(max(n-have.last, 0), 2)]++
	}
	if slices.Min(count[:]) < 300 {
		t.Errorf("%v", count)
	}
}

// twice has a new Start with a rule of two Starts.
func twice(g api.Gram) api.Gram {
	start := api.KSym{Nt: g.Start}
	rules := append(slices.Clone(g.Rules), api.Rule{Lhs: g.Nts, Rhs: []api.KSym{start, start}})
	return api.Gram{Nts: g.Nts + 1, Start: g.Nts, Rules: rules}
}

// turned has each rule's symbols turned about.
func turned(g api.Gram) api.Gram {
	other := api.Gram{Nts: g.Nts, Start: g.Start}
	for _, rule := range g.Rules {
		rhs := slices.Clone(rule.Rhs)
		slices.Reverse(rhs)
		other.Rules = append(other.Rules, api.Rule{Lhs: rule.Lhs, Rhs: rhs})
	}
	return other
}

func turnedText(w string) string {
	bytes := []byte(w)
	slices.Reverse(bytes)
	return string(bytes)
}

// P7.6.
func TestTwiceAndTurned(t *testing.T) {
	r := rand.New(rand.NewSource(76))
	count := 0
	for range 6000 {
		g, u, v := anyGram(r), anyText(r), anyText(r)
		is := func(g api.Gram, w string) bool {
			yes, code := Accepts(g, []byte(w))
			if code != api.OK {
				t.Fatalf("%+v: %d", g, code)
			}
			return yes
		}
		if is(g, u) && is(g, v) {
			count++
			if !is(twice(g), u+v) {
				t.Fatalf("%+v derives %q and %q, twice not", g, u, v)
			}
		}
		cut := false
		for m := range len(u) + 1 {
			cut = cut || is(g, u[:m]) && is(g, u[m:])
		}
		if is(twice(g), u) != cut || is(turned(g), turnedText(u)) != is(g, u) {
			t.Fatalf("%+v, %q: cut %v", g, u, cut)
		}
		if have, want := spansText(tell(t, turned(g), turnedText(u)).spans), spansText(turnedSpans(tell(t, g, u).spans, len(u))); have != want {
			t.Fatalf("%+v, %q: turned\n%s\n, not\n%s", g, u, have, want)
		}
	}
	if count < 200 {
		t.Errorf("only %d derive both", count)
	}
}

func turnedSpans(spans [][]api.Run, n int) [][]api.Run {
	var list [][]api.Run
	for _, runs := range spans {
		var other []api.Run
		for _, run := range runs {
			other = append(other, api.Run{Lo: n - run.Hi, Hi: n - run.Lo})
		}
		slices.SortFunc(other, func(a, b api.Run) int { return slices.Compare([]int{a.Lo, a.Hi}, []int{b.Lo, b.Hi}) })
		list = append(list, other)
	}
	return list
}

// wild fills a value by chance, with little care for what is right.
func wild(v reflect.Value, r *rand.Rand) {
	switch v.Kind() {
	case reflect.Int:
		v.SetInt(int64(r.Intn(5) - 1))
	case reflect.Uint64:
		v.SetUint(uint64(r.Intn(8)) / 7)
	case reflect.Struct:
		for i := range v.NumField() {
			wild(v.Field(i), r)
		}
	case reflect.Array:
		for i := range v.Len() {
			wild(v.Index(i), r)
		}
	case reflect.Slice:
		v.Set(reflect.MakeSlice(v.Type(), r.Intn(4), 6))
		for i := range v.Len() {
			wild(v.Index(i), r)
		}
	}
}

// Hand-made grammars are told of, or refused, and stay as they were.
func TestHandMade(t *testing.T) {
	r := rand.New(rand.NewSource(11))
	count := map[api.Errno]int{}
	for range 20000 {
		var g, before api.Gram
		seed := r.Int63()
		wild(reflect.ValueOf(&g).Elem(), rand.New(rand.NewSource(seed)))
		wild(reflect.ValueOf(&before).Elem(), rand.New(rand.NewSource(seed)))
		w := strings.Map(func(c rune) rune { return c % 3 * 64 }, anyText(r))
		code := facts.Right(g)
		count[code]++
		if code != api.OK {
			if have := refusedBy(g, []byte(w), 0); have != code {
				t.Fatalf("%+v: %d, not %d", g, have, code)
			}
		} else if have := tell(t, g, w); chartText(have.chart) != chartText(slowChart(g, w)) || have.accepts != derives(g, w)[g.Start][0][len(w)] {
			t.Fatalf("%+v, %q: %+v", g, w, have)
		}
		if !reflect.DeepEqual(g, before) {
			t.Fatalf("%+v has changed, it was %+v", g, before)
		}
	}
	if count[api.OK] < 1000 || count[api.ErrForm] < 1000 {
		t.Errorf("%v", count)
	}
}
