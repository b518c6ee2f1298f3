package facts

import (
	"math"
	"reflect"
	"slices"
	"testing"

	"tracery/api"
	"tracery/charset"
	"tracery/defs"
	"tracery/kernel"
)

// gram is a grammar of rules like `A>AaB`: great letters are nonterminals, A being 0 and Start; `!` is a symbol of an empty set, any other sign its byte.
func gram(nts int, rules ...string) api.Gram {
	g := api.Gram{Nts: nts}
	for _, text := range rules {
		r := api.Rule{Lhs: int(text[0] - 'A')}
		for _, c := range []byte(text[2:]) {
			r.Rhs = append(r.Rhs, sign(c))
		}
		g.Rules = append(g.Rules, r)
	}
	return g
}

func sign(c byte) api.KSym {
	switch {
	case c == '!':
		return api.KSym{Nt: -1}
	case 'A' <= c && c <= 'Z':
		return api.KSym{Nt: int(c - 'A')}
	}
	return api.KSym{Nt: -1, Set: charset.Of(c)}
}

// bits is a list of bools as ones and noughts.
func bits(list []bool) string {
	text := ""
	for _, so := range list {
		if so {
			text += "1"
		} else {
			text += "0"
		}
	}
	return text
}

// told is what each call tells of a grammar that is right.
type told struct {
	nullable, productive, reach string
	first                       []string
	shortest, trim              []int
	cyclic                      bool
}

func tell(t *testing.T, g api.Gram) told {
	t.Helper()
	empty, e1 := Nullable(g)
	some, e2 := Productive(g)
	reached, e3 := Reach(g)
	sets, e4 := First(g)
	short, e5 := Shortest(g)
	rules, e6 := Trim(g)
	loop, e7 := Cyclic(g)
	if Right(g) != api.OK || e1 != api.OK || e2 != api.OK || e3 != api.OK || e4 != api.OK || e5 != api.OK || e6 != api.OK || e7 != api.OK {
		t.Fatalf("%+v is refused", g)
	}
	var first []string
	for _, s := range sets {
		first = append(first, charset.Print(s))
	}
	return told{bits(empty), bits(some), bits(reached), first, short, rules, loop}
}

func (a told) same(b told) bool {
	return a.nullable == b.nullable && a.productive == b.productive && a.reach == b.reach && a.cyclic == b.cyclic &&
		slices.Equal(a.first, b.first) && slices.Equal(a.shortest, b.shortest) && slices.Equal(a.trim, b.trim)
}

func TestTold(t *testing.T) {
	for _, c := range []struct {
		nts   int
		rules []string
		want  told
	}{
		{2, []string{"A>A+A", "A>B", "B>0"}, told{"00", "11", "11", []string{"[0]", "[0]"}, []int{1, 1}, []int{0, 1, 2}, false}},
		{1, []string{"A>A"}, told{"0", "0", "1", []string{"[]"}, []int{-1}, nil, true}},
		{1, nil, told{"0", "0", "1", []string{"[]"}, []int{-1}, nil, false}},
		{3, nil, told{"000", "000", "100", []string{"[]", "[]", "[]"}, []int{-1, -1, -1}, nil, false}},
		{1, []string{"A>"}, told{"1", "1", "1", []string{"[]"}, []int{0}, []int{0}, false}},
		{1, []string{"A>!"}, told{"0", "0", "1", []string{"[]"}, []int{-1}, nil, false}},
		{1, []string{"A>a"}, told{"0", "1", "1", []string{"[a]"}, []int{1}, []int{0}, false}},
		{1, []string{"A>a!"}, told{"0", "0", "1", []string{"[a]"}, []int{-1}, nil, false}},
		{1, []string{"A>!a", "A>b"}, told{"0", "1", "1", []string{"[b]"}, []int{1}, []int{1}, false}},
		// first bytes of what derives nothing, and beyond nullable symbols
		{2, []string{"A>aB", "B>B"}, told{"00", "00", "11", []string{"[a]", "[]"}, []int{-1, -1}, nil, true}},
		{4, []string{"A>BCDx", "B>b", "B>", "C>c", "C>", "D>d"}, told{"0110", "1111", "1111", []string{"[b-d]", "[b]", "[c]", "[d]"}, []int{2, 0, 0, 1}, []int{0, 1, 2, 3, 4, 5}, false}},
		{3, []string{"A>BC", "B>", "C>", "B>b", "C>Ac"}, told{"111", "111", "111", []string{"[bc]", "[b]", "[bc]"}, []int{0, 0, 0}, []int{0, 1, 2, 3, 4}, false}},
		{3, []string{"A>Ab", "A>C", "B>A", "C>c"}, told{"000", "111", "101", []string{"[c]", "[c]", "[c]"}, []int{1, 1, 1}, []int{0, 1, 2, 3}, false}},
		// steps that lead to themselves: over one, over several, beside what is nullable; of what is not reached, and not productive
		{2, []string{"A>BAB", "B>", "A>a"}, told{"01", "11", "11", []string{"[a]", "[]"}, []int{1, 0}, []int{0, 1, 2}, true}},
		{2, []string{"A>BA", "B>b", "A>a"}, told{"00", "11", "11", []string{"[ab]", "[b]"}, []int{1, 1}, []int{0, 1, 2}, false}},
		{1, []string{"A>AA", "A>"}, told{"1", "1", "1", []string{"[]"}, []int{0}, []int{0, 1}, true}},
		{1, []string{"A>AA", "A>a"}, told{"0", "1", "1", []string{"[a]"}, []int{1}, []int{0, 1}, false}},
		{3, []string{"A>B", "B>C", "C>A", "C>c"}, told{"000", "111", "111", []string{"[c]", "[c]", "[c]"}, []int{1, 1, 1}, []int{0, 1, 2, 3}, true}},
		{3, []string{"A>a", "B>C", "C>B"}, told{"000", "100", "100", []string{"[a]", "[]", "[]"}, []int{1, -1, -1}, []int{0}, true}},
		{3, []string{"A>BC", "B>", "C>AC", "A>x"}, told{"010", "110", "111", []string{"[x]", "[]", "[x]"}, []int{1, 0, -1}, []int{1, 3}, false}},
		{2, []string{"A>aB", "B>Ab", "B>"}, told{"01", "11", "11", []string{"[a]", "[a]"}, []int{1, 0}, []int{0, 1, 2}, false}},
		{3, []string{"A>BaB", "B>CC", "C>cc", "B>ccccc", "C>ccc"}, told{"000", "111", "111", []string{"[c]", "[c]", "[c]"}, []int{9, 4, 2}, []int{0, 1, 2, 3, 4}, false}},
	} {
		if have := tell(t, gram(c.nts, c.rules...)); !have.same(c.want) {
			t.Errorf("%v:\n%+v\n, not\n%+v", c.rules, have, c.want)
		}
	}
}

func TestStart(t *testing.T) {
	g := gram(3, "A>a", "B>Cb", "C>c")
	g.Start = 1
	if have := tell(t, g); have.reach != "011" {
		t.Errorf("Reach: %v", have.reach)
	}
	g.Start = 2
	if have := tell(t, g); have.reach != "001" {
		t.Errorf("Reach: %v", have.reach)
	}
}

func TestSize(t *testing.T) {
	for _, c := range []struct {
		g    api.Gram
		want int
	}{
		{api.Gram{}, 0}, {gram(1), 0}, {gram(1, "A>"), 1}, {gram(2, "A>A+A", "A>B", "B>0"), 8},
		{api.Gram{Nts: -1, Rules: []api.Rule{{Lhs: 7, Rhs: []api.KSym{{Nt: -9}, {}}}, {}}}, 4},
		{api.Gram{Rules: make([]api.Rule, api.MaxRules+1)}, api.MaxRules + 1},
		{api.Gram{Rules: make([]api.Rule, 9)[:2]}, 2},
		{api.Gram{Rules: []api.Rule{{Rhs: make([]api.KSym, api.MaxRhs+1)}}}, api.MaxRhs + 2},
	} {
		if have := Size(c.g); have != c.want {
			t.Errorf("Size = %d, not %d", have, c.want)
		}
	}
}

// refused tells whether each call answers ErrForm and nothing else.
func refused(g api.Gram) bool {
	a, e1 := Nullable(g)
	b, e2 := Productive(g)
	c, e3 := Reach(g)
	d, e4 := First(g)
	e, e5 := Shortest(g)
	f, e6 := Trim(g)
	loop, e7 := Cyclic(g)
	for _, code := range []api.Errno{Right(g), e1, e2, e3, e4, e5, e6, e7} {
		if code != api.ErrForm {
			return false
		}
	}
	return len(a)+len(b)+len(c)+len(d)+len(e)+len(f) == 0 && !loop
}

func rule(lhs int, rhs ...api.KSym) []api.Rule { return []api.Rule{{Lhs: lhs, Rhs: rhs}} }

func TestRight(t *testing.T) {
	all := charset.Not(api.Set{})
	for i, g := range []api.Gram{
		{Nts: 1}, {Nts: 1, Rules: []api.Rule{}}, {Nts: api.MaxNts}, {Nts: api.MaxNts, Start: api.MaxNts - 1}, {Nts: 2, Start: 1},
		{Nts: 1, Rules: make([]api.Rule, api.MaxRules)},
		{Nts: 1, Rules: rule(0, make([]api.KSym, api.MaxRhs)...)}, {Nts: 1, Rules: rule(0)}, {Nts: 1, Rules: []api.Rule{{Rhs: []api.KSym{}}}},
		{Nts: 2, Rules: rule(1, api.KSym{Nt: 1}, api.KSym{Nt: -1}, api.KSym{Nt: -1, Set: all})},
		{Nts: api.MaxNts, Rules: rule(api.MaxNts-1, api.KSym{Nt: api.MaxNts - 1})},
		{Nts: 1, Rules: append(make([]api.Rule, 1), rule(99, api.KSym{Nt: 99})...)[:1]}, {Nts: 1, Rules: rule(0, []api.KSym{{Nt: -1}, {Nt: 99}}[:1]...)},
	} {
		if e := Right(g); e != api.OK || refused(g) {
			t.Errorf("number %d is not right: %v", i, e)
		}
		tell(t, g)
	}
}

func TestWrong(t *testing.T) {
	a := charset.Of('a')
	list := []api.Gram{
		{}, {Nts: -1}, {Nts: 0, Start: -1}, {Nts: math.MinInt}, {Nts: math.MaxInt}, {Nts: api.MaxNts + 1}, {Nts: api.MaxNts + 1, Start: api.MaxNts},
		{Nts: 1, Start: -1}, {Nts: 1, Start: 1}, {Nts: 3, Start: 3}, {Nts: 3, Start: math.MinInt}, {Nts: 3, Start: math.MaxInt},
		{Nts: 1, Rules: make([]api.Rule, api.MaxRules+1)},
		{Nts: 1, Rules: rule(0, make([]api.KSym, api.MaxRhs+1)...)},
	}
	for _, nt := range []int{-2, 2, 3, api.MaxNts, math.MinInt, math.MaxInt} {
		list = append(list, api.Gram{Nts: 2, Rules: rule(0, api.KSym{Nt: nt})}, api.Gram{Nts: 2, Rules: rule(0, api.KSym{Nt: 1}, api.KSym{Nt: nt, Set: a})},
			api.Gram{Nts: 2, Rules: rule(nt)}, api.Gram{Nts: 2, Rules: append(rule(0), rule(nt, api.KSym{Nt: -1})...)})
	}
	list = append(list, api.Gram{Nts: 2, Rules: rule(-1)}, api.Gram{Nts: 2, Rules: rule(0, api.KSym{Nt: 0, Set: a})}, api.Gram{Nts: 2, Rules: rule(0, api.KSym{Nt: -1, Set: a}, api.KSym{Nt: 1, Set: a})},
		api.Gram{Nts: 2, Rules: rule(0, api.KSym{Nt: 1, Set: api.Set{3: 1 << 63}})})
	for i, g := range list {
		if !refused(g) {
			t.Errorf("number %d is not refused: %+v", i, g)
		}
	}
}

// doubled is a grammar in which nonterminal n derives one text, of 2 to the n bytes; the last one derives what is said behind it.
func doubled(n int, last ...api.KSym) api.Gram {
	g := api.Gram{Nts: n + 2, Start: n + 1, Rules: rule(0, api.KSym{Nt: -1, Set: charset.Of('a')})}
	for nt := 1; nt <= n; nt++ {
		g.Rules = append(g.Rules, api.Rule{Lhs: nt, Rhs: []api.KSym{{Nt: nt - 1}, {Nt: nt - 1}}})
	}
	g.Rules = append(g.Rules, api.Rule{Lhs: n + 1, Rhs: last})
	return g
}

func TestLongShortestTexts(t *testing.T) {
	nt := func(n int) api.KSym { return api.KSym{Nt: n} }
	for _, c := range []struct {
		n    int
		last []api.KSym
		want int
	}{
		{9, []api.KSym{nt(9)}, api.MaxInput}, {9, []api.KSym{nt(9), nt(0)}, api.MaxInput + 1}, {9, []api.KSym{nt(9), nt(1)}, api.MaxInput + 1},
		{9, []api.KSym{nt(8), nt(7), nt(6), nt(5), nt(4), nt(3), nt(2), nt(1), nt(0)}, api.MaxInput - 1}, {9, []api.KSym{nt(8), nt(8)}, api.MaxInput},
		{9, []api.KSym{nt(9), nt(9)}, api.MaxInput + 1}, {9, slices.Repeat([]api.KSym{nt(9)}, api.MaxRhs), api.MaxInput + 1},
		{4000, []api.KSym{nt(4000)}, api.MaxInput + 1}, {4000, []api.KSym{nt(9)}, api.MaxInput}, {10, []api.KSym{nt(10), nt(11)}, -1}, {10, []api.KSym{nt(10), {Nt: -1}}, -1},
	} {
		g := doubled(c.n, c.last...)
		have, e := Shortest(g)
		if e != api.OK || have[c.n+1] != c.want {
			t.Errorf("Shortest of %v = %v %v, not %d", c.last, have[c.n+1], e, c.want)
		}
		for n := range c.n {
			if want := 1 << min(n, 30); have[n] != min(want, api.MaxInput+1) {
				t.Errorf("Shortest of 2 to the %d = %d", n, have[n])
			}
		}
	}
	// a longer way is found ahead of a shorter one
	g := doubled(12, nt(12))
	g.Rules = append(g.Rules, api.Rule{Lhs: 12}, api.Rule{Lhs: 10, Rhs: []api.KSym{nt(3), nt(9)}}, api.Rule{Lhs: 11, Rhs: []api.KSym{nt(3), nt(8)}})
	if have, _ := Shortest(g); have[13] != 0 || have[12] != 0 || have[11] != 264 || have[10] != api.MaxInput+1 {
		t.Errorf("Shortest = %v", have)
	}
}

// P6.8: of a right definition's grammar just the gap is nullable, and it is not cyclic.
func TestGrammarsOfDefinitions(t *testing.T) {
	for _, text := range []string{
		`start E; cf E.A = "a";`,
		`start E; cf E.A = E "+" E; cf E.N = N; lex N = [0-9]+;`,
		`start E; layout W; cf E.Add = E "+" E; cf E.Mul = E "*" E; cf E.Num = N; cf E = "(" E ")" bracket; lex N = [0-9]+; lex W = [\s\n]; prio left Mul > left Add; follow N [0-9];`,
		`start E; layout W; cf E.A = F? E* G {F ","}*; cf F.B = G+; cf G.C = "g" E? F*; lex W = W "w" | [x]* "y" W?;`,
		`start E; layout W; cf E.A = {F ","}+ N?; cf F.B = N; lex N = M+; lex M = K [a]? L*; lex K = [k]; lex L = K+; lex W = L;`,
		`start E; layout W; cf E.A = "a" E?; lex W = [];`,
	} {
		d, f := defs.Parse(text)
		k, e := kernel.Make(d)
		if f.Code != api.OK || e != api.OK {
			t.Fatalf("%q: %v %v", text, f, e)
		}
		have := tell(t, k.Gram)
		want := make([]bool, len(k.Names))
		if gap := slices.Index(k.Names, "gap"); gap >= 0 {
			want[gap] = true
		}
		if have.nullable != bits(want) || have.cyclic {
			t.Errorf("%q: %+v", text, have)
		}
	}
}

// What is handed in does not change, and what is handed out is new.
func TestMemory(t *testing.T) {
	make1 := func() api.Gram { return gram(4, "A>BCDx", "B>b", "B>", "C>c", "C>", "D>d", "D>A") }
	g := make1()
	first := tell(t, g)
	a, _ := Nullable(g)
	b, _ := Productive(g)
	c, _ := Reach(g)
	d, _ := First(g)
	e, _ := Shortest(g)
	f, _ := Trim(g)
	for _, list := range [][]bool{a, b, c} {
		for i := range list {
			list[i] = !list[i]
		}
	}
	for _, list := range [][]int{e, f} {
		for i := range list {
			list[i] += 7
		}
	}
	clear(d)
	if !tell(t, g).same(first) || !reflect.DeepEqual(g, make1()) {
		t.Error("something changed")
	}
}

// Great grammars are answered soon, whatever the order of their rules.
func TestGreatGrammars(t *testing.T) {
	forward, back := api.Gram{Nts: api.MaxNts}, api.Gram{Nts: api.MaxNts, Start: api.MaxNts - 1}
	const n = api.MaxNts
	for nt := range n - 1 {
		forward.Rules = append(forward.Rules, api.Rule{Lhs: nt, Rhs: []api.KSym{{Nt: nt + 1}}}, api.Rule{Lhs: nt, Rhs: []api.KSym{{Nt: -1, Set: charset.Of(byte(nt))}, {Nt: nt}}})
		back.Rules = append(back.Rules, api.Rule{Lhs: nt + 1, Rhs: []api.KSym{{Nt: nt}}}, api.Rule{Lhs: nt, Rhs: []api.KSym{{Nt: -1, Set: charset.Of(byte(nt))}, {Nt: nt}}})
	}
	forward.Rules = append(forward.Rules, api.Rule{Lhs: n - 1})
	back.Rules = append(back.Rules, api.Rule{Lhs: 0})
	for _, g := range []api.Gram{forward, back} {
		have := tell(t, g)
		if have.cyclic || have.shortest[g.Start] != 0 || have.first[g.Start] != charset.Print(charset.Not(api.Set{})) || len(have.trim) != len(g.Rules) {
			t.Errorf("a long way: %v %v", have.cyclic, have.first[g.Start])
		}
		for _, told := range []string{have.nullable, have.productive, have.reach} {
			if told != bits(slices.Repeat([]bool{true}, n)) {
				t.Error("not all are so")
			}
		}
	}
	full := api.Gram{Nts: api.MaxNts}
	for r := range api.MaxRules - 1 {
		rule := api.Rule{Lhs: r % n}
		for i := range api.MaxRhs {
			rule.Rhs = append(rule.Rhs, api.KSym{Nt: (r*7 + i*i + 1) % n})
		}
		full.Rules = append(full.Rules, rule)
	}
	if have := tell(t, full); have.cyclic || have.productive != bits(make([]bool, n)) || have.reach != bits(slices.Repeat([]bool{true}, n)) {
		t.Error("what has no end is productive")
	}
	full.Rules = append(full.Rules, api.Rule{Lhs: n / 2})
	tell(t, full)
	for nt := range n {
		full.Rules[nt].Rhs = nil
	}
	if have := tell(t, full); !have.cyclic || have.nullable != bits(slices.Repeat([]bool{true}, n)) {
		t.Error("not all are nullable")
	}
}
