package earley

import (
	"fmt"
	"slices"
	"strings"
	"testing"

	"tracery/api"
	"tracery/charset"
	"tracery/defs"
	"tracery/facts"
	"tracery/kernel"
)

// gram is a grammar of rules like `A>AaB`: great letters are nonterminals, A being 0 and Start; `!` is a symbol of an empty set, `#` a digit, any other sign its byte.
func gram(nts int, rules ...string) api.Gram {
	g := api.Gram{Nts: nts}
	for _, text := range rules {
		r := api.Rule{Lhs: int(text[0] - 'A')}
		for _, c := range []byte(text[2:]) {
			r.Rhs = append(r.Rhs, sign(c))
		}
		g.Rules = append(g.Rules, r)
	}
	return g
}

func sign(c byte) api.KSym {
	switch {
	case c == '!':
		return api.KSym{Nt: -1}
	case c == '#':
		return api.KSym{Nt: -1, Set: charset.Of([]byte("0123456789")...)}
	case 'A' <= c && c <= 'Z':
		return api.KSym{Nt: int(c - 'A')}
	}
	return api.KSym{Nt: -1, Set: charset.Of(c)}
}

func sum() api.Gram { return gram(1, "A>A+A", "A>#") }

// told is what each call tells of a grammar and a text; Spans of each nonterminal.
type told struct {
	chart   [][]api.EItem
	items   int
	accepts bool
	last    int
	next    string
	spans   [][]api.Run
}

func tell(t *testing.T, g api.Gram, w string) told {
	t.Helper()
	chart, e1 := Chart(g, []byte(w))
	n, e2 := Items(g, []byte(w))
	is, e3 := Accepts(g, []byte(w))
	end, e4 := Last(g, []byte(w))
	bytes, e5 := Next(g, []byte(w))
	have := told{chart, n, is, end, charset.Print(bytes), nil}
	for nt := range g.Nts {
		runs, e6 := Spans(g, []byte(w), nt)
		if e1 != api.OK || e2 != api.OK || e3 != api.OK || e4 != api.OK || e5 != api.OK || e6 != api.OK {
			t.Fatalf("%+v, %q is refused: %d %d %d %d %d %d", g, w, e1, e2, e3, e4, e5, e6)
		}
		have.spans = append(have.spans, runs)
	}
	return have
}

// chartText is `rule.dot@from` of each item, a line a set.
func chartText(chart [][]api.EItem) string {
	var lines []string
	for _, set := range chart {
		var words []string
		for _, item := range set {
			words = append(words, fmt.Sprintf("%d.%d@%d", item.Rule, item.Dot, item.From))
		}
		lines = append(lines, strings.Join(words, " "))
	}
	return strings.Join(lines, "\n")
}

// spansText is `lo-hi` of each run, a line a nonterminal.
func spansText(spans [][]api.Run) string {
	var lines []string
	for _, runs := range spans {
		var words []string
		for _, run := range runs {
			words = append(words, fmt.Sprintf("%d-%d", run.Lo, run.Hi))
		}
		lines = append(lines, strings.Join(words, " "))
	}
	return strings.Join(lines, "\n")
}

// P7.1: the sets, in their order.
func TestChart(t *testing.T) {
	for _, c := range []struct {
		g    api.Gram
		w    string
		want []string
	}{
		{sum(), "", []string{"0.0@0 1.0@0"}},
		{sum(), "1+1", []string{"0.0@0 1.0@0", "0.1@0 1.1@0", "0.0@2 0.2@0 1.0@2", "0.1@0 0.1@2 0.3@0 1.1@2"}},
		{sum(), "+1", []string{"0.0@0 1.0@0", "", ""}},
		// no rule at all, and none of Start
		{gram(1), "a", []string{"", ""}},
		{gram(2, "B>a"), "a", []string{"", ""}},
		// rules without symbols, several that are the same, and an empty set
		{gram(1, "A>", "A>", "A>!", "A>a"), "a", []string{"0.0@0 1.0@0 2.0@0 3.0@0", "3.1@0"}},
		// B is ended in the set in which it begins, ahead of and behind what waits for it
		{gram(2, "A>BaB", "B>"), "a", []string{"0.0@0 0.1@0 1.0@0", "0.2@0 0.3@0 1.0@1"}},
		{gram(3, "A>BBC", "B>", "C>B", "C>BCc"), "c", []string{"0.0@0 0.1@0 0.2@0 0.3@0 1.0@0 2.0@0 2.1@0 3.0@0 3.1@0 3.2@0", "0.3@0 3.2@0 3.3@0"}},
		// a nonterminal that leads to itself
		{gram(1, "A>A", "A>a"), "a", []string{"0.0@0 1.0@0", "0.1@0 1.1@0"}},
		{gram(1, "A>AA", "A>"), "", []string{"0.0@0 0.1@0 0.2@0 1.0@0"}},
		// what is not productive is in the sets, what is not reached is not
		{gram(4, "A>aBC", "B>b", "C>C", "D>a"), "abc", []string{"0.0@0", "0.1@0 1.0@1", "0.2@0 1.1@1 2.0@2", ""}},
		// items of one rule and point from several places
		{gram(2, "A>Aa", "A>a", "A>aA"), "aaa", []string{"0.0@0 1.0@0 2.0@0", "0.0@1 0.1@0 1.0@1 1.1@0 2.0@1 2.1@0",
			"0.0@2 0.1@0 0.1@1 0.2@0 1.0@2 1.1@1 2.0@2 2.1@1 2.2@0", "0.0@3 0.1@0 0.1@1 0.1@2 0.2@0 0.2@1 1.0@3 1.1@2 2.0@3 2.1@2 2.2@0 2.2@1"}},
	} {
		have := tell(t, c.g, c.w)
		if want := strings.Join(c.want, "\n"); chartText(have.chart) != want {
			t.Errorf("%+v, %q:\n%s\n, not\n%s", c.g, c.w, chartText(have.chart), want)
		}
		if n := len(strings.Fields(strings.Join(c.want, " "))); have.items != n {
			t.Errorf("%+v, %q: %d items, not %d", c.g, c.w, have.items, n)
		}
	}
}

// P7.2, P7.3.
func TestTold(t *testing.T) {
	for _, c := range []struct {
		g       api.Gram
		w       string
		accepts bool
		last    int
		next    string
		spans   string
	}{
		{sum(), "1+1", true, 3, "[+]", "0-1 0-3 2-3"},
		{sum(), "1++", false, 2, "[]", "0-1"},
		{sum(), "", false, 0, "[0-9]", ""},
		{sum(), "1+", false, 2, "[0-9]", "0-1"},
		{sum(), "x1", false, 0, "[]", "1-2"},
		{sum(), "1+1x1+1", false, 3, "[]", "0-1 0-3 2-3 4-5 4-7 6-7"},
		// a Start that derives nothing
		{gram(1), "", false, -1, "[]", ""},
		{gram(1), "a", false, -1, "[]", ""},
		{gram(1, "A>A"), "", false, -1, "[]", ""},
		{gram(1, "A>!"), "a", false, -1, "[]", ""},
		{gram(1, "A>aA"), "aaa", false, -1, "[]", ""},
		{gram(2, "A>aB", "B>Bb"), "a", false, -1, "[]", "\n"},
		{gram(2, "A>B", "B>a!"), "a", false, -1, "[]", "\n"},
		{gram(2, "B>a"), "a", false, -1, "[]", "\n0-1"},
		// rules that are not productive lead nowhere
		{gram(1, "A>a", "A>ab!"), "ab", false, 1, "[]", "0-1"},
		{gram(1, "A>a", "A>ab!"), "a", true, 1, "[]", "0-1"},
		{gram(2, "A>a", "A>abB", "B>bB"), "a", true, 1, "[]", "0-1\n"},
		{gram(2, "A>B", "A>c", "B>B", "B>Bx"), "", false, 0, "[c]", "\n"},
		// the empty text
		{gram(1, "A>"), "", true, 0, "[]", "0-0"},
		{gram(1, "A>"), "ab", false, 0, "[]", "0-0 1-1 2-2"},
		{gram(2, "A>BaB", "B>"), "a", true, 1, "[]", "0-1\n0-0 1-1"},
		{gram(2, "A>BaB", "B>", "B>b"), "bab", true, 3, "[]", "0-2 0-3 1-2 1-3\n0-0 0-1 1-1 2-2 2-3 3-3"},
		{gram(3, "A>BC", "B>", "C>B", "C>c"), "", true, 0, "[c]", "0-0\n0-0\n0-0"},
		// what is not reached has spans too
		{gram(3, "A>a", "B>Cb", "C>c", "C>"), "acb", false, 1, "[]", "0-1\n1-3 2-3\n0-0 1-1 1-2 2-2 3-3"},
		// cyclic grammars
		{gram(1, "A>A", "A>a"), "a", true, 1, "[]", "0-1"},
		{gram(1, "A>AA", "A>", "A>a"), "aa", true, 2, "[a]", "0-0 0-1 0-2 1-1 1-2 2-2"},
		// several rules that are the same
		{gram(1, "A>ab", "A>ab"), "ab", true, 2, "[]", "0-2"},
	} {
		have := tell(t, c.g, c.w)
		if have.accepts != c.accepts || have.last != c.last || have.next != c.next || spansText(have.spans) != c.spans {
			t.Errorf("%+v, %q: %v %d %s\n%s", c.g, c.w, have.accepts, have.last, have.next, spansText(have.spans))
		}
	}
}

// Another Start than nonterminal 0.
func TestStart(t *testing.T) {
	g := gram(3, "A>a", "B>Cb", "C>c")
	g.Start = 1
	have := tell(t, g, "cb")
	if chartText(have.chart) != "1.0@0 2.0@0\n1.1@0 2.1@0\n1.2@0" || !have.accepts || have.last != 2 || have.next != "[]" || spansText(have.spans) != "\n0-2\n0-1" {
		t.Errorf("%+v", have)
	}
}

// Bytes of all kinds.
func TestBytes(t *testing.T) {
	g := api.Gram{Nts: 1, Rules: []api.Rule{{Rhs: []api.KSym{{Nt: -1, Set: charset.Of(0, 63, 64, 255)}, {Nt: -1, Set: charset.Not(charset.Of(255))}}}}}
	for w, want := range map[string]bool{"\x00\x00": true, "?\x80": true, "@\xfe": true, "\xff\x7f": true, "\x01\x00": false, "\xff\xff": false, "\xfe\x00": false, "\u0080": false} {
		if have, _ := Accepts(g, []byte(w)); have != want {
			t.Errorf("Accepts(%q) = %v", w, have)
		}
	}
	if have, _ := Next(g, []byte("@")); have != charset.Not(charset.Of(255)) {
		t.Errorf("Next = %s", charset.Print(have))
	}
}

// wrongGrams are grammars that are not right.
func wrongGrams() []api.Gram {
	long := gram(1, "A>"+strings.Repeat("a", api.MaxRhs+1))
	many := gram(1, slices.Repeat([]string{"A>a"}, api.MaxRules+1)...)
	return []api.Gram{{}, {Nts: -1}, {Nts: api.MaxNts + 1}, {Nts: 1, Start: 1}, {Nts: 1, Start: -1}, long, many,
		gram(1, "B>a"), gram(1, "A>B"), {Nts: 1, Rules: []api.Rule{{Lhs: -1}}}, {Nts: 1, Rules: []api.Rule{{Rhs: []api.KSym{{Nt: -2}}}}},
		{Nts: 1, Rules: []api.Rule{{Rhs: []api.KSym{{Set: charset.Of('a')}}}}}}
}

// refusedBy is the error of all calls, with nothing beside it; -1, if they differ.
func refusedBy(g api.Gram, w []byte, nt int) api.Errno {
	chart, e1 := Chart(g, w)
	n, e2 := Items(g, w)
	is, e3 := Accepts(g, w)
	end, e4 := Last(g, w)
	bytes, e5 := Next(g, w)
	runs, e6 := Spans(g, w, nt)
	if len(chart) > 0 || n != 0 || is || end != 0 || bytes != (api.Set{}) || len(runs) > 0 || e1 != e2 || e2 != e3 || e3 != e4 || e4 != e5 || e5 != e6 {
		return -1
	}
	return e1
}

func TestRefused(t *testing.T) {
	for i, g := range wrongGrams() {
		for _, n := range []int{0, api.MaxInput, api.MaxInput + 1} {
			for _, nt := range []int{-1, 0, 1} {
				if code := refusedBy(g, make([]byte, n), nt); code != api.ErrForm {
					t.Errorf("grammar %d, %d bytes: %d", i, n, code)
				}
			}
		}
	}
	for _, n := range []int{api.MaxInput + 1, 3 * api.MaxInput} {
		for _, nt := range []int{-1, 0, 1} {
			if code := refusedBy(sum(), make([]byte, n), nt); code != api.ErrLong {
				t.Errorf("%d bytes: %d", n, code)
			}
		}
	}
	for _, nt := range []int{-1 << 63, -2, -1, 2, 3, 1<<63 - 1} {
		if runs, code := Spans(gram(2, "A>a"), []byte("a"), nt); code != api.ErrArg || len(runs) > 0 {
			t.Errorf("Spans of %d: %v %d", nt, runs, code)
		}
	}
	if runs, code := Spans(gram(2, "A>a"), []byte("a"), 1); code != api.OK || len(runs) > 0 {
		t.Errorf("Spans: %v %d", runs, code)
	}
}

// Lists that are nil and lists that are empty are the same.
func TestEmptyLists(t *testing.T) {
	for _, g := range []api.Gram{{Nts: 1}, {Nts: 1, Rules: []api.Rule{}}, {Nts: 1, Rules: []api.Rule{{}}}, {Nts: 1, Rules: []api.Rule{{Rhs: []api.KSym{}}}}} {
		for _, w := range [][]byte{nil, {}} {
			chart, e := Chart(g, w)
			is, f := Accepts(g, w)
			if e != api.OK || f != api.OK || len(chart) != 1 || len(chart[0]) != len(g.Rules) || is != (len(g.Rules) > 0) {
				t.Errorf("%+v: %v %d %v %d", g, chart, e, is, f)
			}
		}
	}
}

// A text of MaxInput bytes, with all spans that can be.
func TestLongestText(t *testing.T) {
	const n = api.MaxInput
	g := gram(1, "A>AA", "A>a")
	have := tell(t, g, strings.Repeat("a", n))
	if want := n + n*(n-1)/2 + 2*(n+1) + n*(n+1)/2; !have.accepts || have.last != n || have.next != "[a]" || len(have.spans[0]) != n*(n+1)/2 || have.items != want {
		t.Errorf("%v %d %s, %d spans, %d items, not %d", have.accepts, have.last, have.next, len(have.spans[0]), have.items, want)
	}
	at := 0
	for lo := range n {
		for hi := lo + 1; hi <= n; hi++ {
			if have.spans[0][at] != (api.Run{Lo: lo, Hi: hi}) {
				t.Fatalf("span %d is %v", at, have.spans[0][at])
			}
			at++
		}
	}
	have = tell(t, g, strings.Repeat("a", n-1)+"b")
	if have.accepts || have.last != n-1 || have.next != "[]" {
		t.Errorf("%v %d %s", have.accepts, have.last, have.next)
	}
}

// A grammar with as many nonterminals and rules as may be, and one with the longest rules.
func TestGreatestGrammars(t *testing.T) {
	g := api.Gram{Nts: api.MaxNts, Start: api.MaxNts - 1}
	for nt := range api.MaxNts {
		a, b := api.KSym{Nt: -1, Set: charset.Of('a')}, api.KSym{Nt: -1, Set: charset.Of('b')}
		g.Rules = append(g.Rules, api.Rule{Lhs: nt, Rhs: []api.KSym{a, {Nt: (nt + 1) % api.MaxNts}}}, api.Rule{Lhs: nt, Rhs: []api.KSym{b}})
	}
	w := []byte(strings.Repeat("a", api.MaxInput-1) + "b")
	is, e := Accepts(g, w)
	n, f := Items(g, w)
	if e != api.OK || f != api.OK || !is || n != 2*api.MaxInput+api.MaxInput-1+1+api.MaxInput-1 {
		t.Errorf("%v %d, %d %d", is, e, n, f)
	}
	long := gram(2, "A>A"+strings.Repeat("B", api.MaxRhs-1), "A>", "B>b", "B>")
	have := tell(t, long, strings.Repeat("b", api.MaxInput))
	if !have.accepts || have.last != api.MaxInput || have.next != "[b]" || len(have.spans[0]) != (api.MaxInput+1)*(api.MaxInput+2)/2 {
		t.Errorf("%v %d %s", have.accepts, have.last, have.next)
	}
}

// The grammar of a definition.
func TestDefinition(t *testing.T) {
	d, fault := defs.Parse(`start E; layout W; cf E.Add = E "+" E; cf E.Num = N; cf E = "(" E ")" bracket; lex N = [0-9]+; lex W = [\s\n];`)
	if fault.Code != api.OK {
		t.Fatal(fault)
	}
	k, code := kernel.Make(d)
	if code != api.OK {
		t.Fatal(code)
	}
	have := tell(t, k.Gram, "( 1 +x")
	if have.accepts || have.last != 5 || have.next != "[]" || spansText(have.spans[:2]) != "2-3\n2-3" {
		t.Errorf("%v %d %s\n%s", have.accepts, have.last, have.next, spansText(have.spans[:2]))
	}
	if have := tell(t, k.Gram, "( 1 +"); have.next != `[\n\s(0-9]` {
		t.Errorf("Next: %s", have.next)
	}
	if have := tell(t, k.Gram, " 12+(3)\n"); !have.accepts || have.next != `[\n\s+]` {
		t.Errorf("%v %s", have.accepts, have.next)
	}
}

// P7.4: there are no more items than the bound says; a grammar without symbols meets it at the empty text.
func TestBoundIsMet(t *testing.T) {
	for _, g := range []api.Gram{gram(1, "A>", "A>"), gram(1, "A>AA", "A>"), gram(2, "A>BA", "B>", "A>")} {
		if n, _ := Items(g, nil); n != facts.Size(g) {
			t.Errorf("%+v: %d items, not %d", g, n, facts.Size(g))
		}
	}
}
