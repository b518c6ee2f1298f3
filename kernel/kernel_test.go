package kernel

import (
	"reflect"
	"slices"
	"strings"
	"testing"

	"tracery/api"
	"tracery/charset"
	"tracery/check"
	"tracery/defs"
)

func must(t *testing.T, text string) api.Def {
	t.Helper()
	d, f := defs.Parse(text)
	if f.Code != api.OK {
		t.Fatalf("Parse(%q): %v", text, f)
	}
	return d
}

// made is what Make tells of a text's definition, which is right.
func made(t *testing.T, text string) api.Kern {
	t.Helper()
	k, e := Make(must(t, text))
	if e != api.OK {
		t.Fatalf("Make(%q): %v", text, e)
	}
	return k
}

// ruleText is a rule in names and sets, as `E > E gap [+] gap E`.
func ruleText(k api.Kern, r int) string {
	text := k.Names[k.Gram.Rules[r].Lhs] + " >"
	for _, s := range k.Gram.Rules[r].Rhs {
		switch {
		case s.Nt == -1:
			text += " " + charset.Print(s.Set)
		case s.Set != api.Set{}:
			text += " a nonterminal with a set"
		default:
			text += " " + k.Names[s.Nt]
		}
	}
	return text
}

func ruleTexts(k api.Kern) []string {
	var list []string
	for r := range k.Gram.Rules {
		list = append(list, ruleText(k, r))
	}
	return list
}

func equal[T comparable](t *testing.T, what string, have, want []T) {
	t.Helper()
	if !slices.Equal(have, want) {
		t.Errorf("%s:\n%v\n, not\n%v", what, have, want)
	}
}

func lines(text string) []string { return strings.Split(strings.TrimSpace(text), "\n") }

// hasRules holds the rules of a text's definition against what is wanted, a line each.
func hasRules(t *testing.T, text, want string) {
	t.Helper()
	equal(t, text, ruleTexts(made(t, text)), lines(want))
}

func same(a, b []api.Origin) bool {
	return slices.EqualFunc(a, b, func(x, y api.Origin) bool {
		return x.Kind == y.Kind && x.Prod == y.Prod && x.Mask == y.Mask && slices.Equal(x.Syms, y.Syms)
	})
}

func TestExample(t *testing.T) {
	const text = `start E; cf E.A = E "+" E; cf E.N = N; lex N = [0-9]+;`
	k := made(t, text)
	digit := api.KSym{Nt: -1, Set: charset.Of([]byte("0123456789")...)}
	equal(t, "Names", k.Names, []string{"E", "N", "[0-9]+", "top"})
	want := api.Gram{Nts: 4, Start: 3, Rules: []api.Rule{
		{Lhs: 0, Rhs: []api.KSym{{Nt: 0}, {Nt: -1, Set: charset.Of('+')}, {Nt: 0}}},
		{Lhs: 0, Rhs: []api.KSym{{Nt: 1}}},
		{Lhs: 1, Rhs: []api.KSym{{Nt: 2}}},
		{Lhs: 2, Rhs: []api.KSym{digit}},
		{Lhs: 2, Rhs: []api.KSym{{Nt: 2}, digit}},
		{Lhs: 3, Rhs: []api.KSym{{Nt: 0}}},
	}}
	if !reflect.DeepEqual(k.Gram, want) {
		t.Errorf("Gram: %+v", k.Gram)
	}
	if !same(k.From, []api.Origin{
		{Kind: api.OUser, Prod: 0, Syms: []int{0, 1, 2}}, {Kind: api.OUser, Prod: 1, Syms: []int{0}}, {Kind: api.OUser, Prod: 2, Syms: []int{0}},
		{Kind: api.OOne}, {Kind: api.OMore}, {Kind: api.OTop},
	}) {
		t.Errorf("From: %+v", k.From)
	}
	if !defs.Same(k.Def, must(t, text)) {
		t.Errorf("Def: %+v", k.Def)
	}
	equal(t, "Bans", k.Filters.Bans, nil)
	equal(t, "Follow", k.Filters.Follow, make([]api.Set, 4))
	equal(t, "Reject", k.Filters.Reject, []int{-1, -1, -1, -1})
	equal(t, "Bans", made(t, text+`prio left A;`).Filters.Bans, []api.Ban{{Rule: 0, Pos: 2, Kid: 0}})
}

// whole is the definition of the document's examples of the whole.
const whole = `start E; layout W; cf E.Add = E "+" E; cf E.Mul = E "*" E; cf E.Num = N; cf E = "(" E ")" bracket;
	lex N = [0-9]+; lex W = [\s\n]; prio left Mul > left Add; follow N [0-9];`

func TestWhole(t *testing.T) {
	hasRules(t, whole, `
E > E gap [+] gap E
E > E gap [*] gap E
E > N
E > [(] gap E gap [)]
N > [0-9]+
W > [\n\s]
[0-9]+ > [0-9]
[0-9]+ > [0-9]+ [0-9]
gap >
gap > gap W
top > gap E gap`)
	k := made(t, whole)
	equal(t, "Names", k.Names, []string{"E", "N", "W", "[0-9]+", "gap", "top"})
	if !same(k.From, []api.Origin{
		{Prod: 0, Syms: []int{0, -1, 1, -1, 2}}, {Prod: 1, Syms: []int{0, -1, 1, -1, 2}}, {Prod: 2, Syms: []int{0}}, {Prod: 3, Syms: []int{0, -1, 1, -1, 2}},
		{Prod: 4, Syms: []int{0}}, {Prod: 5, Syms: []int{0}},
		{Kind: api.OOne}, {Kind: api.OMore}, {Kind: api.OGapNone}, {Kind: api.OGapMore}, {Kind: api.OTop},
	}) {
		t.Errorf("From: %+v", k.From)
	}
	equal(t, "Bans", k.Filters.Bans, []api.Ban{{Rule: 0, Pos: 4, Kid: 0}, {Rule: 1, Pos: 0, Kid: 0}, {Rule: 1, Pos: 4, Kid: 0}, {Rule: 1, Pos: 4, Kid: 1}})
	equal(t, "Follow", k.Filters.Follow, []api.Set{1: charset.Of([]byte("0123456789")...), 5: {}})
	if k.Gram.Nts != 6 || k.Gram.Start != 5 {
		t.Errorf("Gram: %d %d", k.Gram.Nts, k.Gram.Start)
	}
}

// Sorts stand by their first productions, lists by the first symbols that are they, the gap and the top behind them.
func TestNonterminals(t *testing.T) {
	k := made(t, `start F; layout W; lex N = M [a]+ "n"; cf F.A = {E ","}* N+ E "x"; lex W = " "; cf E.B = N* "e" {E ","}+ {E ";"}+; lex N = [a]* M+ "m"; lex M = [b]+;`)
	equal(t, "Names", k.Names, []string{"N", "F", "W", "E", "M", "[a]+", `{E ","}+`, "N+", `{E ";"}+`, "M+", "[b]+", "gap", "top"})
	if k.Gram.Nts != 13 || k.Gram.Start != 12 {
		t.Errorf("Gram: %d %d", k.Gram.Nts, k.Gram.Start)
	}
	k = made(t, `start F; cf F.A = "a";`)
	equal(t, "Names", k.Names, []string{"F", "top"})
}

// Each mask is a rule; what is left out takes its gap with it.
func TestMasks(t *testing.T) {
	for _, c := range []struct{ text, want string }{
		{`start E; cf E.A = "ab" E "c";`, "E > [a] [b] E [c]\ntop > E"},
		{`start E; cf E.A = "ab" E?;`, "E > [a] [b]\nE > [a] [b] E\ntop > E"},
		{`start E; layout W; cf E.A = E? "ab" N*; lex W = "w"; lex N = "n";`, `
E > [a] [b]
E > E gap [a] [b]
E > [a] [b] gap N+
E > E gap [a] [b] gap N+
W > [w]
N > [n]
N+ > N
N+ > N+ gap N
gap >
gap > gap W
top > gap E gap`},
		{`start E; cf E.A = "e"; lex N = [a]? "x" N? [b]* "y" [c];`, `
E > [e]
N > [x] [y] [c]
N > [a] [x] [y] [c]
N > [x] N [y] [c]
N > [a] [x] N [y] [c]
N > [x] [b]+ [y] [c]
N > [a] [x] [b]+ [y] [c]
N > [x] N [b]+ [y] [c]
N > [a] [x] N [b]+ [y] [c]
[b]+ > [b]
[b]+ > [b]+ [b]
top > E`},
	} {
		hasRules(t, c.text, c.want)
	}
	k := made(t, `start E; layout W; lex W = "w"; cf E.A = E? E* "x" E? {E ","}*;`)
	if got := Rules(k, 1); len(got) != 1<<api.MaxOmit || got[0] != 1 {
		t.Errorf("Rules = %v", got)
	}
	for mask := range 1 << api.MaxOmit {
		o := k.From[1+mask]
		if o.Kind != api.OUser || o.Prod != 1 || o.Mask != mask {
			t.Errorf("mask %d: %+v", mask, o)
		}
	}
	equal(t, "Syms of mask 6", k.From[1+6].Syms, []int{1, -1, 2, -1, 3})
	equal(t, "Syms of mask 15", k.From[1+15].Syms, []int{0, -1, 1, -1, 2, -1, 3, -1, 4})
	equal(t, "Syms of mask 0", k.From[1].Syms, []int{2})
	equal(t, "Rule of mask 6", []string{ruleText(k, 7)}, []string{`E > E+ gap [x] gap E`})
	equal(t, "Rule of mask 9", []string{ruleText(k, 10)}, []string{`E > E gap [x] gap {E ","}+`})
}

// The bytes of a literal all come from its symbol, and no gap stands between them.
func TestLiterals(t *testing.T) {
	k := made(t, `start E; layout W; cf E.A = "if" E? "then" "x"; lex W = "ww" "\x00\xff";`)
	equal(t, "rule", []string{ruleText(k, 0), ruleText(k, 1), ruleText(k, 2)},
		[]string{`E > [i] [f] gap [t] [h] [e] [n] gap [x]`, `E > [i] [f] gap E gap [t] [h] [e] [n] gap [x]`, `W > [w] [w] [\x00] [\xff]`})
	equal(t, "Syms", k.From[0].Syms, []int{0, 0, -1, 2, 2, 2, 2, -1, 3})
	equal(t, "Syms", k.From[1].Syms, []int{0, 0, -1, 1, -1, 2, 2, 2, 2, -1, 3})
	equal(t, "Syms", k.From[2].Syms, []int{0, 0, 1, 1})
}

// Lists are the same, if they have the same Name, Set and Sep and stand in productions of one kind; SStar or SPlus is of no matter.
func TestSameLists(t *testing.T) {
	for _, c := range []struct {
		text  string
		lists []string
	}{
		{`cf E.B = "b" F+ F* F+; cf F.C = F* "c";`, []string{"F+"}},
		{`cf E.B = "b" F+ E+;`, []string{"F+", "E+"}},
		{`cf E.B = "b" {F ","}+ {F ","}*; cf E.C = {F ","}* "c";`, []string{`{F ","}+`}},
		{`cf E.B = "b" {F ","}+ {E ","}*;`, []string{`{F ","}+`, `{E ","}+`}},
		{`cf E.B = "b" {F ","}+ {F ";"}* F+;`, []string{`{F ","}+`, `{F ";"}+`, "F+"}},
		{`cf E.B = "b" {F "\x00\"\n"}+;`, []string{`{F "\x00\"\n"}+`}},
		{`cf E.B = "b" N+ N*; lex M = "m" N+ N*;`, []string{"N+", "N+"}},
		{`lex M = "m" N+ N*; cf E.B = "b" N+ N*;`, []string{"N+", "N+"}},
		{`lex M = "m" [a]+ [a]*; lex N = [a]+;`, []string{"[a]+"}},
		{`lex M = "m" [a]+ [b]* [a-b]+ []+ [a-c]+ [bca]+;`, []string{"[a]+", "[b]+", "[ab]+", "[]+", "[a-c]+"}},
		{`lex M = "m" N? [a]?; cf E.B = "b" N? N;`, nil},
	} {
		k := made(t, `start E; cf E.A = "a"; cf F.G = "f"; lex N = "n"; lex M = "m"; `+c.text)
		equal(t, c.text, k.Names[4:len(k.Names)-1], c.lists)
	}
}

func TestListRules(t *testing.T) {
	const text = `start E; cf E.A = "a" {E ", "}+ E* N+; lex N = "n" [x]* N+;`
	hasRules(t, text, `
E > [a] {E ", "}+ N+
E > [a] {E ", "}+ E+ N+
N > [n] N+
N > [n] [x]+ N+
{E ", "}+ > E
{E ", "}+ > {E ", "}+ [,] [\s] E
E+ > E
E+ > E+ E
N+ > N
N+ > N+ N
[x]+ > [x]
[x]+ > [x]+ [x]
N+ > N
N+ > N+ N
top > E`)
	hasRules(t, text+`layout W; lex W = "w" | W "v" [y]+ N+;`, `
E > [a] gap {E ", "}+ gap N+
E > [a] gap {E ", "}+ gap E+ gap N+
N > [n] N+
N > [n] [x]+ N+
W > [w]
W > W [v] [y]+ N+
{E ", "}+ > E
{E ", "}+ > {E ", "}+ gap [,] [\s] gap E
E+ > E
E+ > E+ gap E
N+ > N
N+ > N+ gap N
[x]+ > [x]
[x]+ > [x]+ [x]
N+ > N
N+ > N+ N
[y]+ > [y]
[y]+ > [y]+ [y]
gap >
gap > gap W
top > gap E gap`)
	k := made(t, text)
	a, b := k.Gram.Rules[8].Lhs, k.Gram.Rules[12].Lhs
	if a == b || k.Gram.Rules[0].Rhs[2].Nt != a || k.Gram.Rules[2].Rhs[1].Nt != b || k.Gram.Rules[9].Rhs[0].Nt != a || k.Gram.Rules[13].Rhs[0].Nt != b {
		t.Errorf("the lists of lexical productions are those of others: %d %d", a, b)
	}
	for r, o := range k.From[4:14] {
		if want := (api.Origin{Kind: []int{api.OOne, api.OMore}[r%2]}); !reflect.DeepEqual(o, want) && len(o.Syms) > 0 {
			t.Errorf("rule %d: %+v", r, o)
		}
	}
}

// A list is named as defs writes it.
func TestListNames(t *testing.T) {
	for _, s := range []api.Sym{
		{Name: "Abc"}, {Name: "A", Sep: ","}, {Name: "A", Sep: "\"\\\n\t\r \x00\xff}"}, {Set: charset.Of()}, {Set: charset.Not(charset.Of())}, {Set: charset.Of([]byte("]^-\\ \n")...)},
	} {
		s.Kind = api.SPlus
		text, e := defs.Print(api.Def{Prods: []api.Prod{{Lex: true, Sort: "L", Syms: []api.Sym{s}}}})
		if have := listOf(api.Prod{}, s).text(); e != api.OK || "lex L = "+have+";\n" != text {
			t.Errorf("%q: %q", have, text)
		}
	}
}

func TestFollowAndReject(t *testing.T) {
	k := made(t, `start E; layout W; cf E.A = I+; lex I = [a-z]+; lex K = "if" | L; lex L = "l"; lex W = " "; lex J = "j";
		follow I [a-c]; follow E [;]; follow W [\s]; follow I [c-z0]; follow E [;]; reject I K; reject J L;`)
	equal(t, "Names", k.Names, []string{"E", "I", "K", "L", "W", "J", "I+", "[a-z]+", "gap", "top"})
	semi, _ := charset.Parse("[;]")
	letters, _ := charset.Parse("[a-z0]")
	equal(t, "Follow", k.Filters.Follow, []api.Set{0: semi, 1: letters, 4: charset.Of(' '), 9: {}})
	equal(t, "Reject", k.Filters.Reject, []int{-1, 2, -1, -1, -1, 3, -1, -1, -1, -1})
}

// isNothing tells whether a Kern is the zero one.
func isNothing(k api.Kern) bool {
	return defs.Same(k.Def, api.Def{}) && k.Gram.Nts == 0 && k.Gram.Start == 0 && len(k.Gram.Rules) == 0 && len(k.From) == 0 && len(k.Names) == 0 &&
		len(k.Filters.Bans) == 0 && len(k.Filters.Follow) == 0 && len(k.Filters.Reject) == 0
}

func TestRefused(t *testing.T) {
	const good = `start E; cf E.A = "a"; lex N = "n"; lex M = "m"; `
	made(t, good)
	for _, text := range []string{
		``, `start E;`, `cf E.A = "a";`, `start N; lex N = "n";`, good + `layout E;`, good + `layout X;`,
		good + `cf N.B = "b";`, good + `cf E.B = X;`, good + `cf E.B = [a];`, good + `lex N = E;`, good + `cf F.A = "a";`, good + `cf E = "(" N ")" bracket;`,
		good + `cf E.B = "b" N? N? N? N? N?;`, good + `cf E.B = "";`, good + `cf E.B = E*;`, good + `cf E.B = E;`, good + `reject N N;`, good + `prio B;`, good + `prio A A;`,
		good + `follow N [];`, good + `box A = "b";`, good + `follow X [a];`, good + `reject N X;`,
	} {
		d := must(t, text)
		if e, _ := check.Check(d); e == api.OK {
			t.Errorf("%q is right", text)
		}
		if k, e := Make(d); e != api.ErrDef || !isNothing(k) {
			t.Errorf("Make(%q) = %+v %v", text, k, e)
		}
	}
}

func TestRefusedHandMade(t *testing.T) {
	ring := []api.Item{{Kind: api.BGroup}}
	ring[0].Items = ring
	for i, change := range []func(d *api.Def){
		func(d *api.Def) { d.Prods[0].Syms = nil },
		func(d *api.Def) { d.Prods[0].Syms[0].Kind = 0 },
		func(d *api.Def) { d.Prods[0].Syms[0].Kind = 7 },
		func(d *api.Def) { d.Prods[0].Syms[0].Text = "x" },
		func(d *api.Def) { d.Prods[0].Sort = "e" },
		func(d *api.Def) { d.Prods[0].Bracket = true },
		func(d *api.Def) { d.Prods = make([]api.Prod, api.MaxProds+1) },
		func(d *api.Def) { d.Chains = [][]api.Group{nil} },
		func(d *api.Def) { d.Chains = [][]api.Group{{{Assoc: 9, Cons: []string{"Add"}}}} },
		func(d *api.Def) { d.Chains = [][]api.Group{{{Cons: []string{""}}}} },
		func(d *api.Def) { d.Follows[0].Sort = "" },
		func(d *api.Def) { d.Rejects = []api.Reject{{}} },
		func(d *api.Def) { d.Boxes = []api.Box{{Cons: "Num", Items: ring}} },
		func(d *api.Def) { d.Start = "" },
		func(d *api.Def) { d.Layout = "\x00" },
		func(d *api.Def) { *d = api.Def{} },
	} {
		d := must(t, whole)
		change(&d)
		if k, e := Make(d); e != api.ErrDef || !isNothing(k) {
			t.Errorf("number %d: Make = %+v %v", i, k, e)
		}
	}
}

func TestSort(t *testing.T) {
	k := made(t, whole)
	for name, want := range map[string]int{"E": 0, "N": 1, "W": 2, "[0-9]+": -1, "gap": -1, "top": -1, "": -1, "X": -1, "Add": -1, "e": -1, "E ": -1} {
		if have := Sort(k, name); have != want {
			t.Errorf("Sort of %q = %d", name, have)
		}
	}
	most := "A" + strings.Repeat("a", api.MaxName-1)
	k = api.Kern{Names: []string{"", "gap", "B", "A", "B", most + "a", most, "A", "a", "Gap"}}
	for name, want := range map[string]int{"": -1, "gap": -1, "B": 2, "A": 3, most + "a": -1, most: 6, "a": -1, "Gap": 9, "C": -1} {
		if have := Sort(k, name); have != want {
			t.Errorf("Sort of %q = %d", name, have)
		}
	}
	if a, b := Sort(api.Kern{}, "A"), Sort(api.Kern{Names: []string{}}, ""); a != -1 || b != -1 {
		t.Errorf("Sort of nothing = %d %d", a, b)
	}
	if have := Sort(api.Kern{Names: []string{"A", "B"}[:1]}, "B"); have != -1 {
		t.Errorf("what lies behind a list is read: %d", have)
	}
}

func TestRules(t *testing.T) {
	k := made(t, `start E; layout W; lex W = "w"; cf E.A = "a" E? E*; cf E.B = "b"; lex N = "n" N?;`)
	for prod, want := range map[int][]int{0: {0}, 1: {1, 2, 3, 4}, 2: {5}, 3: {6, 7}, 4: nil, -1: nil, 1 << 62: nil, -1 << 63: nil} {
		equal(t, "Rules", Rules(k, prod), want)
	}
	k = api.Kern{From: []api.Origin{{Prod: 3}, {Kind: api.OOne, Prod: 3}, {Prod: -7}, {Kind: 9, Prod: 3}, {Kind: -1, Prod: 3}, {}, {Prod: 3, Mask: -1, Syms: []int{9}}, {Kind: api.OTop}}}
	for prod, want := range map[int][]int{0: {5}, 3: {0, 6}, -7: {2}, 1: nil} {
		equal(t, "Rules", Rules(k, prod), want)
	}
	equal(t, "Rules of nothing", Rules(api.Kern{}, 0), nil)
	equal(t, "Rules of nothing", Rules(api.Kern{From: []api.Origin{}}, 0), nil)
	equal(t, "Rules of a part", Rules(api.Kern{From: make([]api.Origin, 5)[:2]}, 0), []int{0, 1})
}
