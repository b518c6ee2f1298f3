package ambig

import (
	"math"
	"slices"
	"strings"
	"testing"

	"tracery/api"
	"tracery/charset"
	"tracery/defs"
	"tracery/kernel"
)

// gram is a grammar of rules like `A>A[0-9]B`: great letters are nonterminals, A being 0 and Start; what is in brackets is a set, any other sign its byte.
func gram(nts int, rules ...string) api.Gram {
	g := api.Gram{Nts: nts}
	for _, text := range rules {
		r := api.Rule{Lhs: int(text[0] - 'A')}
		for text = text[2:]; text != ""; {
			end := 1
			if text[0] == '[' {
				end = strings.IndexByte(text, ']') + 1
			}
			r.Rhs = append(r.Rhs, sym(text[:end]))
			text = text[end:]
		}
		g.Rules = append(g.Rules, r)
	}
	return g
}

func sym(text string) api.KSym {
	switch {
	case len(text) > 1:
		return api.KSym{Nt: -1, Set: set(text)}
	case 'A' <= text[0] && text[0] <= 'Z':
		return api.KSym{Nt: int(text[0] - 'A')}
	}
	return api.KSym{Nt: -1, Set: charset.Of(text[0])}
}

func set(text string) api.Set {
	s, fault := charset.Parse(text)
	if fault.Code != api.OK {
		panic(text)
	}
	return s
}

func follow(sets ...string) api.Filters {
	var f api.Filters
	for _, text := range sets {
		f.Follow = append(f.Follow, set(text))
	}
	return f
}

func bans(list ...api.Ban) api.Filters { return api.Filters{Bans: list} }

func ban(rule, pos, kid int) api.Ban { return api.Ban{Rule: rule, Pos: pos, Kid: kid} }

// sum is the chapter's example.
func sum() api.Gram { return gram(1, "A>A+A", "A>[0-9]") }

// left makes it one of one tree a text.
func left() api.Filters { return bans(ban(0, 2, 0)) }

// all is each byte once, rising.
func all() string { return string(charset.Bytes(charset.Not(api.Set{}))) }

// apart has rules by which no two bytes are alike: a set for each bit of a byte.
func apart() api.Gram {
	g := api.Gram{Nts: 1}
	for bit := range 8 {
		var s api.Set
		for b := range 256 {
			if b>>bit&1 == 1 {
				s = charset.Union(s, charset.Of(byte(b)))
			}
		}
		g.Rules = append(g.Rules, api.Rule{Rhs: []api.KSym{{Nt: -1, Set: s}}})
	}
	return g
}

// P17.1: the signs, and each byte's sign.
func TestSigns(t *testing.T) {
	for _, c := range []struct {
		g     api.Gram
		f     api.Filters
		signs string
		maps  []string // a text and its Map, in turn
	}{
		{sum(), api.Filters{}, "+0", []string{"1+23", "0+00", "0", "0", "9", "0", "+", "+", "x", "\x00", "\xff(\n", "\x00\x00\x00", "", ""}},
		{sum(), left(), "+0", []string{"9+9", "0+0"}},
		// bytes that no Set has, and the least byte in one
		{gram(1, `A>[\x00-\x05]`), api.Filters{}, "\x00", []string{"\x00\x05\x06a\xff", "\x00\x00\x06\x06\x06"}},
		{gram(1, `A>[\xff]`), api.Filters{}, "\xff", []string{"\x00a\xfe\xff", "\x00\x00\x00\xff"}},
		{gram(1, `A>[^a]`), api.Filters{}, "\x00", []string{"abz", "a\x00\x00"}},
		{gram(1, `A>[^]`), api.Filters{}, "\x00", []string{"abz\xff", "\x00\x00\x00\x00"}},
		// sets that meet, lie in one another, are the same
		{gram(1, `A>[a-m]`, `A>[h-z]`), api.Filters{}, "ahn", []string{"agmhnz", "aahhnn"}},
		{gram(1, `A>[a-z][c-e]`, `A>[a-z]`), api.Filters{}, "ac", []string{"abcdefz", "aacccaa"}},
		{gram(1, `A>[ac][bd]`, `A>[ab]`), api.Filters{}, "abcd", []string{"abcde", "abcd\x00"}},
		{gram(1, `A>[ac][bd]`, `A>[ac]`), api.Filters{}, "ab", []string{"abcde", "abab\x00"}},
		// rules that derive nothing, or that nothing reaches
		{gram(3, `A>[a-z]A`, `B>[b-y]`, `C>[c][]`), api.Filters{}, "abc", []string{"abcyz", "abcba"}},
		// no signs: no rules, none with a byte, and only an empty Set
		{gram(1), api.Filters{}, "", []string{"abc", "\x00\x00\x00"}},
		{gram(2, "A>BB", "B>"), api.Filters{}, "", []string{"\x07", "\x00"}},
		{gram(1, "A>[]"), api.Filters{}, "", []string{"x", "\x00"}},
		// a member of Follow parts bytes that the rules' Sets do not, also those that no Set has
		{gram(1, "A>[a-z]"), follow("[x-z]"), "ax", []string{"awxyz", "aaxxx"}},
		{gram(2, "A>[a-z]", "B>"), follow("[]", `[\x00a0-9]`), "ab", []string{"abz09\x00\x01", "abb\x00\x00\x00\x01"}},
		{gram(1, "A>[a-z]"), follow("[a-z]"), "a", []string{"az1", "aa\x00"}},
		{gram(1, "A>[a-z]"), follow("[^]"), "a", []string{"az1", "aa\x00"}},
		{gram(1), follow("[a-z]"), "", []string{"azA", "aa\x00"}},
		{gram(2, "A>[a-z]"), follow("[a-m]", "[h-z]"), "ahn", []string{"aghmnz", "aahhnn"}},
		// bans and rejects part nothing
		{gram(2, "A>B[a-z]", "B>[a-z]"), api.Filters{Bans: []api.Ban{ban(0, 0, 1)}, Reject: []int{1, 0}}, "a", []string{"bz", "aa"}},
		{apart(), api.Filters{}, all()[1:], []string{all(), all()}},
	} {
		have, code := Signs(c.g, c.f)
		if string(have) != c.signs || code != api.OK {
			t.Errorf("%+v: %q, not %q (%d)", c.g, have, c.signs, code)
		}
		for pair := range slices.Chunk(c.maps, 2) {
			if have, code := Map(c.g, c.f, []byte(pair[0])); string(have) != pair[1] || code != api.OK {
				t.Errorf("%+v: Map(%q) = %q, not %q (%d)", c.g, pair[0], have, pair[1], code)
			}
		}
	}
}

// A text of MaxInput bytes, and of one more.
func TestLongTexts(t *testing.T) {
	for n, want := range map[int]api.Errno{0: api.OK, 1: api.OK, api.MaxInput - 1: api.OK, api.MaxInput: api.OK, api.MaxInput + 1: api.ErrLong, 2 * api.MaxInput: api.ErrLong, 1 << 20: api.ErrLong} {
		have, code := Map(sum(), left(), []byte(strings.Repeat("7", n)))
		mapped := strings.Repeat("0", n)
		if want != api.OK {
			mapped = ""
		}
		if code != want || string(have) != mapped {
			t.Errorf("%d bytes: %d bytes, %d", n, len(have), code)
		}
	}
}

// found is a search's answer in short.
func found(kind int, word string, tried int) api.Found {
	return api.Found{Kind: kind, Word: []byte(word), Tried: tried}
}

func same(a, b api.Found) bool {
	return a.Kind == b.Kind && string(a.Word) == string(b.Word) && a.Tried == b.Tried
}

// P17.2: what a search comes to.
func TestSearch(t *testing.T) {
	const most = 100000
	for _, c := range []struct {
		g         api.Gram
		f         api.Filters
		n, budget int
		want      api.Found
	}{
		{sum(), api.Filters{}, 5, 1000, found(api.QWitness, "0+0+0", 1+2+4+8+16+0b10101+1)},
		{sum(), left(), 5, 1000, found(api.QNone, "", 63)},
		// the witness is looked at with the last of the budget, and not one ahead of it
		{sum(), api.Filters{}, 5, 53, found(api.QWitness, "0+0+0", 53)},
		{sum(), api.Filters{}, 5, 52, found(api.QExhausted, "", 52)},
		{sum(), api.Filters{}, 5, 54, found(api.QWitness, "0+0+0", 53)},
		{sum(), api.Filters{}, 4, 1000, found(api.QNone, "", 31)},
		{sum(), api.Filters{}, api.MaxInput, most, found(api.QWitness, "0+0+0", 53)},
		// as many words as the budget, one fewer, one more
		{sum(), left(), 5, 63, found(api.QNone, "", 63)},
		{sum(), left(), 5, 62, found(api.QExhausted, "", 62)},
		{sum(), left(), 5, 64, found(api.QNone, "", 63)},
		{sum(), left(), 0, 1, found(api.QNone, "", 1)},
		{sum(), left(), 0, 0, found(api.QExhausted, "", 0)},
		{sum(), left(), 0, most, found(api.QNone, "", 1)},
		{sum(), left(), 1, 1, found(api.QExhausted, "", 1)},
		{sum(), left(), 1, 3, found(api.QNone, "", 3)},
		{sum(), left(), api.MaxInput, 0, found(api.QExhausted, "", 0)},
		{sum(), left(), api.MaxInput, 1, found(api.QExhausted, "", 1)},
		{sum(), left(), api.MaxInput, most, found(api.QExhausted, "", most)},
		{sum(), left(), 15, most, found(api.QNone, "", 1<<16-1)},
		// the empty text is a witness; it is the only word without signs, and with n 0
		{gram(2, "A>B", "A>", "B>"), api.Filters{}, 0, 1, found(api.QWitness, "", 1)},
		{gram(2, "A>B", "A>", "B>"), api.Filters{}, api.MaxInput, most, found(api.QWitness, "", 1)},
		{gram(2, "A>B", "A>", "B>"), api.Filters{}, 3, 0, found(api.QExhausted, "", 0)},
		{gram(2, "A>B", "A>", "B>", "A>a"), api.Filters{}, 3, 9, found(api.QWitness, "", 1)},
		{gram(2, "A>B", "A>", "B>"), bans(ban(0, 0, 2)), 7, 9, found(api.QNone, "", 1)},
		{gram(2, "A>B", "A>", "B>"), api.Filters{Reject: []int{-1, 1}}, 7, 9, found(api.QNone, "", 1)},
		{gram(2, "A>B", "B>"), api.Filters{}, api.MaxInput, most, found(api.QNone, "", 1)},
		{gram(2, "A>B", "B>"), api.Filters{}, api.MaxInput, 1, found(api.QNone, "", 1)},
		{gram(2, "A>B", "B>"), api.Filters{}, api.MaxInput, 0, found(api.QExhausted, "", 0)},
		{gram(1), api.Filters{}, api.MaxInput, most, found(api.QNone, "", 1)},
		{gram(1, "A>[]"), api.Filters{}, 2, 2, found(api.QNone, "", 1)},
		// the witness is the last word, or the first one of its length
		{gram(1, "A>[b-z]b", "A>bb", "A>a"), api.Filters{}, 2, 9, found(api.QWitness, "bb", 1+3+5)},
		{gram(1, "A>zz", "A>zz", "A>a"), api.Filters{}, 2, 7, found(api.QWitness, "zz", 7)},
		{gram(1, "A>zz", "A>zz", "A>a"), api.Filters{}, 2, 6, found(api.QExhausted, "", 6)},
		{gram(1, "A>aa", "A>aa", "A>z"), api.Filters{}, 2, 4, found(api.QWitness, "aa", 4)},
		{gram(1, "A>aa", "A>aa", "A>z"), api.Filters{}, 2, 3, found(api.QExhausted, "", 3)},
		// a shorter one comes first, then a lesser one; bytes are told apart above 127 too
		{gram(1, "A>aa", "A>aa", "A>z", "A>z"), api.Filters{}, 9, 99, found(api.QWitness, "z", 3)},
		{gram(1, "A>az", "A>az", "A>ba", "A>ba"), api.Filters{}, 9, 99, found(api.QWitness, "az", 1+3+3)},
		{gram(1, "A>[\\x80]", "A>[\\x7f]", "A>[\\xff]", "A>[\\xff]"), api.Filters{}, 1, 9, found(api.QWitness, "\xff", 4)},
		// a byte that some Set has, but no tree: its words are looked at too
		{gram(2, "A>b", "B>a"), api.Filters{}, 2, 99, found(api.QNone, "", 7)},
		{gram(2, "A>bb", "A>bb", "B>a"), api.Filters{}, 2, 99, found(api.QWitness, "bb", 7)},
		{gram(2, "A>bb", "A>bb", "B>[]a"), api.Filters{}, 2, 99, found(api.QWitness, "bb", 7)},
		// Follow parts digits, and so there are more words
		{gram(2, "A>BB", "A>[0-9][0-9]", "B>[0-9]"), follow("[]", "[5-9]"), 2, 99, found(api.QWitness, "00", 4)},
		{gram(2, "A>BB", "A>[0-9]", "B>[0-9]"), follow("[]", "[5-9]"), 2, 99, found(api.QNone, "", 7)},
		{gram(2, "A>BB", "A>[0-9][0-9]", "B>[0-9]"), follow("[]", "[0-4]"), 2, 99, found(api.QWitness, "05", 5)},
		// one sign: as many words as bytes, and one
		{gram(1, "A>aA", "A>"), api.Filters{}, 100, most, found(api.QNone, "", 101)},
		{gram(1, "A>Aa", "A>"), api.Filters{}, api.MaxInput, most, found(api.QNone, "", api.MaxInput+1)},
		{gram(1, "A>Aa", "A>"), api.Filters{}, api.MaxInput, api.MaxInput + 1, found(api.QNone, "", api.MaxInput+1)},
		{gram(1, "A>Aa", "A>"), api.Filters{}, api.MaxInput, api.MaxInput, found(api.QExhausted, "", api.MaxInput)},
		{gram(1, "A>AA", "A>a"), api.Filters{}, 9, 99, found(api.QWitness, "aaa", 4)},
		{gram(1, "A>AA", "A>a"), bans(ban(0, 1, 0)), 60, 99, found(api.QNone, "", 61)},
		{gram(1, "A>AA", "A>a"), bans(ban(0, 1, 0), ban(0, 0, 0)), 60, 99, found(api.QNone, "", 61)},
		// a reject takes one of two trees, whatever the filters
		{gram(3, "A>B", "A>C", "B>a", "C>a"), api.Filters{Reject: []int{-1, 2}}, 1, 9, found(api.QNone, "", 2)},
		{gram(3, "A>B", "A>C", "B>a", "C>a"), api.Filters{Reject: []int{-1, 2, 1}}, 1, 9, found(api.QNone, "", 2)},
		{gram(3, "A>B", "A>C", "B>a", "C>a"), api.Filters{Reject: []int{-1, 0}}, 1, 9, found(api.QNone, "", 2)},
		{gram(3, "A>B", "A>B", "B>a", "C>b"), api.Filters{Reject: []int{-1, 2}}, 1, 9, found(api.QWitness, "a", 2)},
		// bans of what never stands there, or more than once
		{gram(2, "A>B", "A>a", "B>a"), bans(ban(0, 0, 1), ban(1, 0, 0)), 1, 9, found(api.QWitness, "a", 2)},
		{gram(2, "A>B", "A>a", "B>a"), bans(ban(0, 0, 2), ban(0, 0, 1), ban(0, 0, 2)), 1, 9, found(api.QNone, "", 2)},
	} {
		have, code := Search(c.g, c.f, c.n, c.budget)
		if !same(have, c.want) || code != api.OK {
			t.Errorf("%+v, %+v, %d, %d: %+v, not %+v (%d)", c.g, c.f, c.n, c.budget, have, c.want, code)
		}
	}
}

// Another Start than nonterminal 0.
func TestStart(t *testing.T) {
	g := gram(2, "A>aa", "A>aa", "B>a", "B>bA")
	for start, want := range []api.Found{found(api.QWitness, "aa", 4), found(api.QWitness, "baa", 12)} {
		g.Start = start
		if have, code := Search(g, api.Filters{}, 3, 99); !same(have, want) || code != api.OK {
			t.Errorf("Start %d: %+v %d", start, have, code)
		}
	}
}

// refusedBy is the error that all three calls tell, with nothing beside it; -1, if they differ.
func refusedBy(g api.Gram, f api.Filters, w []byte, n, budget int) api.Errno {
	list, e1 := Signs(g, f)
	mapped, e2 := Map(g, f, w)
	x, e3 := Search(g, f, n, budget)
	if len(list)+len(mapped) > 0 || !same(x, api.Found{}) || e1 != e2 || e2 != e3 {
		return -1
	}
	return e1
}

func wrongGrams() []api.Gram {
	return []api.Gram{
		{}, {Nts: -1}, {Nts: math.MinInt}, {Nts: math.MaxInt}, {Nts: api.MaxNts + 1}, {Nts: 1, Start: -1}, {Nts: 1, Start: 1}, {Nts: 2, Start: math.MaxInt},
		{Nts: 1, Rules: make([]api.Rule, api.MaxRules+1)}, {Nts: 1, Rules: []api.Rule{{Rhs: make([]api.KSym, api.MaxRhs+1)}}},
		{Nts: 1, Rules: []api.Rule{{Lhs: 1}}}, {Nts: 1, Rules: []api.Rule{{Lhs: -1}}}, {Nts: 1, Rules: []api.Rule{{Rhs: []api.KSym{{Nt: 1}}}}}, {Nts: 1, Rules: []api.Rule{{Rhs: []api.KSym{{Nt: -2}}}}},
		{Nts: 1, Rules: []api.Rule{{Rhs: []api.KSym{{Set: charset.Of('a')}}}}}, {Nts: 1, Rules: []api.Rule{{Rhs: []api.KSym{{Nt: math.MinInt, Set: charset.Of('a')}}}}},
	}
}

func wrongFilters() []api.Filters {
	return []api.Filters{
		bans(ban(-1, 0, 0)), bans(ban(2, 0, 0)), bans(ban(0, -1, 0)), bans(ban(0, 3, 0)), bans(ban(1, 1, 0)), bans(ban(0, 0, -1)), bans(ban(0, 0, 2)), bans(ban(0, 2, 0), ban(math.MaxInt, 0, 0)), bans(ban(0, math.MinInt, 0)),
		{Follow: make([]api.Set, 2)}, {Reject: []int{-2}}, {Reject: []int{1}}, {Reject: []int{-1, -1}}, {Reject: []int{math.MaxInt}},
	}
}

// P17.1, P17.2: which error comes first.
func TestErrors(t *testing.T) {
	long := make([]byte, api.MaxInput+1)
	numbers := []int{math.MinInt, -1, 0, 1, api.MaxInput, api.MaxInput + 1, 100000, 100001, math.MaxInt}
	cyclic := []api.Gram{gram(1, "A>A", "A>a"), gram(2, "A>BAB", "B>", "A>a"), gram(3, "A>a", "B>C", "C>B"), gram(1, "A>AA", "A>")}
	for _, n := range numbers {
		for _, budget := range numbers {
			for i, g := range wrongGrams() {
				for _, f := range []api.Filters{{}, bans(ban(9, 9, 9))} {
					if code := refusedBy(g, f, long, n, budget); code != api.ErrForm {
						t.Errorf("grammar %d, %d, %d: %d", i, n, budget, code)
					}
				}
			}
			for i, f := range wrongFilters() {
				if code := refusedBy(sum(), f, long, n, budget); code != api.ErrForm {
					t.Errorf("filters %d, %d, %d: %d", i, n, budget, code)
				}
			}
			for _, g := range cyclic {
				if x, code := Search(g, api.Filters{}, n, budget); code != api.ErrCycle || !same(x, api.Found{}) {
					t.Errorf("%+v, %d, %d: %+v %d", g, n, budget, x, code)
				}
				if x, code := Search(g, bans(ban(9, 0, 0)), n, budget); code != api.ErrForm || !same(x, api.Found{}) {
					t.Errorf("%+v, %d, %d: %+v %d", g, n, budget, x, code)
				}
			}
			want := api.OK
			if n < 0 || n > api.MaxInput || budget < 0 || budget > 100000 {
				want = api.ErrArg
			}
			if x, code := Search(sum(), api.Filters{}, n, budget); code != want || want != api.OK && !same(x, api.Found{}) {
				t.Errorf("%d, %d: %+v %d, not %d", n, budget, x, code, want)
			}
		}
	}
	// whether a grammar is cyclic is asked by Search alone
	for _, g := range cyclic {
		list, e1 := Signs(g, api.Filters{})
		mapped, e2 := Map(g, api.Filters{}, []byte("b"))
		none, e3 := Map(g, api.Filters{}, long)
		if e1 != api.OK || e2 != api.OK || e3 != api.ErrLong || string(list) != "a" && string(list) != "" || string(mapped) != "\x00" || len(none) > 0 {
			t.Errorf("%+v: %q %d, %q %d, %q %d", g, list, e1, mapped, e2, none, e3)
		}
	}
}

// The words, and that one can stop among them.
func TestWords(t *testing.T) {
	for _, c := range []struct {
		signs string
		most  int
		want  string
	}{
		{"", 0, ","}, {"", 5, ","}, {"a", 0, ","}, {"a", 3, ",a,aa,aaa,"}, {"ab", 2, ",a,b,aa,ab,ba,bb,"}, {"+0x", 1, ",+,0,x,"}, {"\x00\xff", 2, ",\x00,\xff,\x00\x00,\x00\xff,\xff\x00,\xff\xff,"},
	} {
		have, count := "", 0
		for word := range words([]byte(c.signs), c.most) {
			have += string(word) + ","
			count++
		}
		if have != c.want {
			t.Errorf("%q, %d: %q, not %q", c.signs, c.most, have, c.want)
		}
		for stop := range count {
			met := 0
			for range words([]byte(c.signs), c.most) {
				if met == stop {
					break
				}
				met++
			}
			if met != stop {
				t.Errorf("%q, %d: stopped at %d, not %d", c.signs, c.most, met, stop)
			}
		}
		for budget := range count + 3 {
			long, left := 0, budget
			for word := range words([]byte(c.signs), c.most) {
				if left == 0 {
					break
				}
				left--
				long = len(word)
			}
			if have := longest(len(c.signs), c.most, budget); have != long {
				t.Errorf("%q, %d: the longest of %d words has %d bytes, not %d", c.signs, c.most, budget, have, long)
			}
		}
	}
}

// made is a definition's grammar and filters.
func made(t testing.TB, text string) (api.Gram, api.Filters) {
	t.Helper()
	d, fault := defs.Parse(text)
	k, code := kernel.Make(d)
	if fault.Code != api.OK || code != api.OK {
		t.Fatalf("%q: %v %d", text, fault, code)
	}
	return k.Gram, k.Filters
}

// Searches in the grammars of definitions.
func TestDefinitions(t *testing.T) {
	const whole = `start E; layout W; cf E.Add = E "+" E; cf E.Mul = E "*" E; cf E.Num = N; cf E = "(" E ")" bracket; lex N = [0-9]+; lex W = [\s\n];`
	for _, c := range []struct {
		text      string
		n, budget int
		want      string
	}{
		{whole + `prio left Mul > left Add; follow N [0-9];`, 5, 100000, "none"},
		{whole + `prio left Mul > left Add; follow N [0-9];`, 9, 100000, "exhausted"},
		{whole + `prio left Mul > Add; follow N [0-9];`, 5, 100000, "0+0+0"},
		{whole + `prio left Mul; prio left Add; follow N [0-9];`, 5, 100000, "0*0+0"},
		{`start E; cf E.A = N N; lex N = [0-9]+;`, 5, 100, "000"},
		{`start E; cf E.A = N N; lex N = [0-9]+; follow N [0-9];`, 9, 100, "none"},
		{`start E; cf E.A = N; cf E.B = K; lex N = [a-z]+; lex K = "if";`, 2, 100, "if"},
		{`start E; cf E.A = N; cf E.B = K; lex N = [a-z]+; lex K = "if"; reject N K;`, 5, 1000, "none"},
		{`start E; layout W; cf E.A = "a" "a"; lex W = [\s]+;`, 4, 1000, "  aa"}, // one gap of two blanks, or two of one
		{`start E; layout W; cf E.A = "a" "a"; lex W = [\s]+; follow W [\s];`, 6, 1000, "none"},
	} {
		g, f := made(t, c.text)
		have, code := Search(g, f, c.n, c.budget)
		told := map[int]string{api.QNone: "none", api.QExhausted: "exhausted", api.QWitness: string(have.Word)}[have.Kind]
		if told != c.want || code != api.OK {
			t.Errorf("%s: %s, not %s (%d)", c.text, told, c.want, code)
		}
	}
}
