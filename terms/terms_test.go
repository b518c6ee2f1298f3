package terms

import (
	"fmt"
	"math"
	"slices"
	"strings"
	"testing"

	"tracery/api"
)

func app(cons string, kids ...api.Term) api.Term {
	return api.Term{Kind: api.TApp, Cons: cons, Kids: kids}
}

func lex(text string) api.Term { return api.Term{Kind: api.TLex, Text: []byte(text)} }

func list(kids ...api.Term) api.Term { return api.Term{Kind: api.TList, Kids: kids} }

func none() api.Term { return api.Term{Kind: api.TNone} }

func some(kids ...api.Term) api.Term { return api.Term{Kind: api.TSome, Kids: kids} }

// odd is a term of any fields.
func odd(kind int, cons, text string, kids ...api.Term) api.Term {
	return api.Term{Kind: kind, Cons: cons, Text: []byte(text), Kids: kids}
}

// tower is a term of that depth, its last part the bottom.
func tower(deep int, bottom api.Term) api.Term {
	for i := range deep - 1 {
		switch i % 3 {
		case 0:
			bottom = app("A", bottom)
		case 1:
			bottom = list(bottom)
		case 2:
			bottom = some(bottom)
		}
	}
	return bottom
}

// all tells each field of a term.
func all(t api.Term) string {
	text := fmt.Sprintf("%d:%s:%q{", t.Kind, t.Cons, t.Text)
	for _, kid := range t.Kids {
		text += all(kid)
	}
	return text + "}"
}

// each is one right term of each kind, and some of several parts.
func each() []api.Term {
	return []api.Term{
		app("A"), app("A", app("B")), app("Add", app("Num", lex("1")), app("Seq", list())), lex(""), lex("a"), lex("\x00\"\\\n"), lex(strings.Repeat("x", 3*api.MaxText)),
		list(), list(none()), list(lex("a"), list(), some(none()), app("B", none(), none())), none(), some(none()), some(some(app("A"))), some(lex("")),
		app("A" + strings.Repeat("9", api.MaxName-1)),
	}
}

// wrong is terms that are not right by themselves.
func wrong() []api.Term {
	long := "A" + strings.Repeat("a", api.MaxName)
	wrong := []api.Term{
		{}, odd(0, "A", ""), odd(6, "", ""), odd(-1, "", ""), odd(math.MaxInt, "A", ""), odd(math.MinInt, "", "a"), odd(6, "", "", none()),
		// a Cons that is no name
		app(""), app("a"), app("aB"), app("1A"), app("A b"), app("A_"), app("A\n"), app(" A"), app("A("), app("\u00c4"), app("A\u00e4"), app("A\xff"), app("-"), app(long), app("a", none()),
		// fields that are none of the kind's
		odd(api.TApp, "A", "a"), odd(api.TApp, "A", "\x00", none()),
		odd(api.TLex, "A", "a"), odd(api.TLex, "a", ""), odd(api.TLex, "", "a", none()), odd(api.TLex, "", "", lex("a")),
		odd(api.TList, "A", ""), odd(api.TList, "", "a"), odd(api.TList, "A", "", none()), odd(api.TList, "", "a", none()),
		odd(api.TNone, "A", ""), odd(api.TNone, "", "a"), odd(api.TNone, "", "", none()), odd(api.TNone, "", "", none(), none()),
		odd(api.TSome, "A", "", none()), odd(api.TSome, "", "a", none()),
		// TSome with no kid and with two
		some(), some(none(), none()), some(lex("a"), lex("b"), lex("c")), {Kind: api.TSome, Kids: []api.Term{}},
	}
	return wrong
}

// P11.1: what is right, and what is not.
func TestRight(t *testing.T) {
	for _, right := range each() {
		if !Right(right) {
			t.Errorf("%.99s is not right", all(right))
		}
		empty := right
		if len(empty.Text) == 0 {
			empty.Text = []byte{}
		}
		if len(empty.Kids) == 0 {
			empty.Kids = []api.Term{}
		}
		if !Right(empty) {
			t.Errorf("%.99s is not right with empty lists", all(right))
		}
	}
	for _, not := range wrong() {
		for _, term := range []api.Term{not, app("A", not), app("A", none(), not), list(not, none()), list(list(), list(lex("a"), not, lex("b"))), some(not), some(some(app("B", list(not))))} {
			if Right(term) {
				t.Errorf("%s is right", all(term))
			}
		}
	}
}

// P11.1: how deep a term may be.
func TestRightDepth(t *testing.T) {
	const most = api.MaxNest
	for _, bottom := range []api.Term{app("A"), lex("a"), list(), none()} {
		for deep, want := range map[int]bool{1: true, 2: true, most - 1: true, most: true, most + 1: false, most + 2: false, 3 * most: false} {
			if Right(tower(deep, bottom)) != want {
				t.Errorf("%s, %d deep: %v", all(bottom), deep, !want)
			}
		}
		for _, deeper := range []api.Term{app("A", none(), tower(most, bottom)), list(tower(most, bottom), none()), some(tower(most, bottom)), app("A", tower(most-1, app("B", none(), bottom, none())))} {
			if Right(deeper) {
				t.Errorf("%s: too deep, and right", all(bottom))
			}
		}
		if wide := app("A", none(), tower(most-1, bottom), list(list()), tower(most-1, bottom)); !Right(wide) {
			t.Errorf("%s: not right", all(bottom))
		}
	}
}

// P11.1: sizes, of any terms.
func TestSize(t *testing.T) {
	for _, c := range []struct {
		term       api.Term
		size, deep int
	}{
		{api.Term{}, 1, 1}, {none(), 1, 1}, {lex("abc"), 1, 1}, {app("A"), 1, 1}, {list(), 1, 1}, {some(none()), 2, 2},
		{app("Add", app("Num", lex("1")), app("Seq", list())), 5, 3}, {list(none(), none(), none()), 4, 2},
		{app("A", none(), list(none(), some(lex("a"))), none()), 7, 4}, {app("A", some(some(none())), none()), 5, 4}, {app("A", none(), some(some(none()))), 5, 4},
		// not right
		{some(), 1, 1}, {some(none(), none()), 3, 2}, {odd(9, "", "x", odd(api.TLex, "", "a", odd(api.TNone, "", "", app("")))), 4, 4}, {odd(api.TLex, "", "", lex("a"), lex("b")), 3, 2},
		{tower(api.MaxNest+1, none()), api.MaxNest + 1, api.MaxNest + 1},
	} {
		if size, deep := Size(c.term); size != c.size || deep != c.deep {
			t.Errorf("%.99s: %d, %d deep", all(c.term), size, deep)
		}
	}
}

// P11.1: each field tells terms apart, and nothing else does.
func TestSame(t *testing.T) {
	terms := append(each(), wrong()...)
	terms = append(terms, app("B"), lex("b"), lex("A"), lex("ab"), list(list()), list(app("A"), app("B")), list(app("B"), app("A")), app("A", app("A")), app("A", none(), none()), odd(7, "", ""), odd(7, "x", ""), odd(7, "x", "y"), odd(7, "", "y"), odd(7, "x", "y", none()), odd(7, "x", "y", odd(7, "x", "y")))
	number := map[string]int{}
	for _, x := range terms {
		number[all(x)]++
	}
	for _, a := range terms {
		for _, b := range terms {
			if want := all(a) == all(b); Same(a, b) != want {
				t.Errorf("%.99s, %.99s: %v", all(a), all(b), !want)
			}
		}
	}
	if len(number) < len(terms)-5 {
		t.Errorf("%d of %d differ", len(number), len(terms))
	}
	empty := api.Term{Kind: api.TApp, Cons: "A", Text: []byte{}, Kids: []api.Term{{Kind: api.TList, Text: make([]byte, 0, 5), Kids: make([]api.Term, 0, 7)}}}
	if nils := app("A", list()); !Same(empty, nils) || !Same(nils, empty) {
		t.Error("an empty list is not nil")
	}
	if a := tower(1<<16, none()); !Same(a, tower(1<<16, none())) || Same(a, tower(1<<16, list())) || Same(a, tower(1<<16-1, none())) {
		t.Error("deep terms")
	}
}

// walked is what Walk tells, as far as so many terms.
func walked(t api.Term, most int) []string {
	var texts []string
	for part := range Walk(t) {
		texts = append(texts, all(part))
		if len(texts) == most {
			break
		}
	}
	return texts
}

// walkedKinds is the kinds of what Walk tells, as far as so many terms.
func walkedKinds(t api.Term, most int) []int {
	var kinds []int
	for part := range Walk(t) {
		kinds = append(kinds, part.Kind)
		if len(kinds) == most {
			break
		}
	}
	return kinds
}

// slowWalk is the document's words of it, told by calls that call themselves.
func slowWalk(t api.Term) []string {
	texts := []string{all(t)}
	for _, kid := range t.Kids {
		texts = append(texts, slowWalk(kid)...)
	}
	return texts
}

// P11.1 and P11.8: a walk of any term, as far as one goes.
func TestWalk(t *testing.T) {
	a, b := lex("a"), lex("b")
	want := []string{all(app("A", list(a, none()), b)), all(list(a, none())), all(a), all(none()), all(b)}
	if have := walked(app("A", list(a, none()), b), 99); strings.Join(have, " ") != strings.Join(want, " ") {
		t.Errorf("%v, not %v", have, want)
	}
	terms := append(each()[:5], wrong()...)
	terms = append(terms, some(a, list(b, odd(api.TLex, "X", "c", a, none())), odd(0, "", "", some())), tower(api.MaxNest+1, lex("z")))
	for _, term := range terms {
		want := slowWalk(term)
		if size, _ := Size(term); size != len(want) {
			t.Errorf("%s: %d", all(term), size)
		}
		for most := 1; most <= len(want)+1; most += 1 + most/9 { // a walk that is left early
			have := walked(term, most)
			if strings.Join(have, " ") != strings.Join(want[:min(most, len(want))], " ") {
				t.Fatalf("%s, %d of it: %v, not %v", all(term), most, have, want)
			}
		}
	}
}

// A walk calls no more behind a false, and can be gone twice, and one within another.
func TestWalkAgain(t *testing.T) {
	walk := Walk(app("A", lex("a"), list(lex("b"), lex("c")), none()))
	calls := 0
	walk(func(api.Term) bool {
		calls++
		return calls < 3
	})
	if calls != 3 {
		t.Errorf("%d calls", calls)
	}
	count := 0
	for range walk {
		for range walk {
			count++
		}
	}
	if count != 36 {
		t.Errorf("%d", count)
	}
}

// P11.1: the texts of all lexemes, of any terms.
func TestLexemes(t *testing.T) {
	for _, c := range []struct {
		term api.Term
		want string
	}{
		{none(), ""}, {app("A", list()), ""}, {lex("a"), "<a>"}, {lex(""), "<>"}, {app("Add", app("Num", lex("1")), app("Seq", list(lex("2"), some(lex("")), lex("\x00\xff")))), "<1><2><><\x00\xff>"},
		{list(lex("b"), lex("a"), lex("b")), "<b><a><b>"},
		// what is no TLex has no lexeme, whatever its Text; the Kids of a TLex are met
		{odd(api.TApp, "A", "x"), ""}, {odd(0, "", "x", lex("y")), "<y>"}, {odd(api.TNone, "", "x", odd(api.TLex, "C", "y", odd(api.TLex, "", "z"), app("B", lex("w"))), lex("v")), "<y><z><w><v>"}, {odd(3, "", "p", odd(5, "", "q"), odd(2, "", "r")), "<r>"},
	} {
		have := ""
		for _, text := range Lexemes(c.term) {
			have += "<" + string(text) + ">"
		}
		if have != c.want {
			t.Errorf("%s: %q, not %q", all(c.term), have, c.want)
		}
	}
}

// P11.2: paths that lead somewhere, of any terms.
func TestPaths(t *testing.T) {
	term := app("A", lex("a"), list(none(), some(lex("b")), odd(api.TLex, "", "c", lex("d"), none())), app("B"))
	put := odd(9, "X", "y", odd(api.TNone, "", "", lex("z")))
	inner := "3::\"\"{4::\"\"{}5::\"\"{2::\"b\"{}}2::\"c\"{2::\"d\"{}4::\"\"{}}}"
	for _, c := range []struct {
		path     []int
		at, with string
	}{
		{nil, all(term), all(put)}, {[]int{}, all(term), all(put)},
		{[]int{0}, `2::"a"{}`, `1:A:""{` + all(put) + inner + `1:B:""{}}`},
		{[]int{1}, inner, `1:A:""{2::"a"{}` + all(put) + `1:B:""{}}`},
		{[]int{2}, `1:B:""{}`, `1:A:""{2::"a"{}` + inner + all(put) + `}`},
		{[]int{1, 0}, `4::""{}`, strings.Replace(all(term), `4::""{}`, all(put), 1)},
		{[]int{1, 1}, `5::""{2::"b"{}}`, strings.Replace(all(term), `5::""{2::"b"{}}`, all(put), 1)},
		{[]int{1, 1, 0}, `2::"b"{}`, strings.Replace(all(term), `2::"b"{}`, all(put), 1)},
		{[]int{1, 2, 0}, `2::"d"{}`, strings.Replace(all(term), `2::"d"{}`, all(put), 1)}, // a lexeme's kid is a kid
	} {
		at, e1 := At(term, c.path)
		with, e2 := Put(term, c.path, put)
		if e1 != api.OK || all(at) != c.at {
			t.Errorf("At %v: %s %d, not %s", c.path, all(at), e1, c.at)
		}
		if e2 != api.OK || all(with) != c.with {
			t.Errorf("Put at %v: %s %d, not %s", c.path, all(with), e2, c.with)
		}
	}
}

// P11.2: paths that lead nowhere.
func TestNoPaths(t *testing.T) {
	term := app("A", lex("a"), list(none(), some(lex("b"))), app("B"))
	for _, path := range [][]int{
		{3}, {4}, {-1}, {math.MaxInt}, {math.MinInt}, {1, 2}, {1, -1}, {1, 1, 1}, {1, 1, -1}, {1, math.MinInt}, {3, 0}, {-1, 0}, // past the kids and below 0
		{0, 0}, {0, -1}, {2, 0}, {1, 0, 0}, {1, 1, 0, 0}, {0, 0, 0, 0}, // through a term without Kids
	} {
		at, e1 := At(term, path)
		with, e2 := Put(term, path, lex("z"))
		if e1 != api.ErrNone || e2 != api.ErrNone || !Same(at, api.Term{}) || !Same(with, api.Term{}) {
			t.Errorf("%v: %s %d, %s %d", path, all(at), e1, all(with), e2)
		}
	}
	for _, term := range []api.Term{{}, lex("a"), none(), list(), app("A"), {Kind: api.TList, Kids: []api.Term{}}} {
		for _, number := range []int{0, 1, -1} {
			at, e1 := At(term, []int{number})
			with, e2 := Put(term, []int{number}, none())
			if e1 != api.ErrNone || e2 != api.ErrNone || !Same(at, api.Term{}) || !Same(with, api.Term{}) {
				t.Errorf("%s at %d: %d %d", all(term), number, e1, e2)
			}
		}
	}
}

// Terms as deep as may be given, and deeper, and one that has no bottom.
func TestDeepTerms(t *testing.T) {
	for _, deep := range []int{1 << 16, 1 << 18} {
		term := tower(deep, lex("a"))
		size, have := Size(term)
		if size != deep || have != deep || Right(term) {
			t.Errorf("%d deep: %d, %d deep", deep, size, have)
		}
		if texts := Lexemes(term); len(texts) != 1 || string(texts[0]) != "a" {
			t.Errorf("%d deep: %q", deep, texts)
		}
		path := make([]int, deep-1)
		last, e1 := At(term, path)
		more, e2 := Put(term, path, list(lex("b")))
		if _, e3 := At(term, make([]int, deep)); e1 != api.OK || e2 != api.OK || e3 != api.ErrNone || !Same(last, lex("a")) || Same(more, term) || string(Lexemes(more)[0]) != "b" {
			t.Errorf("%d deep: %d %d %d", deep, e1, e2, e3)
		}
		if text, code := Print(term); text != "" || code != api.ErrTerm {
			t.Errorf("Print of %d: %d", deep, code)
		}
	}
	if kinds := walkedKinds(tower(1<<16, lex("a")), 1<<30); len(kinds) != 1<<16 || slices.Index(kinds, api.TLex) != 1<<16-1 {
		t.Errorf("%d terms, the lexeme is number %d", len(kinds), slices.Index(kinds, api.TLex))
	}
	ring := []api.Term{list(), list()}
	ring[0].Kids, ring[1].Kids = ring, ring
	if text, code := Print(list(ring...)); Right(ring[0]) || Right(app("A", ring...)) || text != "" || code != api.ErrTerm {
		t.Errorf("a ring: %d", code)
	}
	ring[0].Kids = ring[:1]
	if have := len(walkedKinds(ring[0], 9)); have != 9 { // nothing is promised of it, but one may leave
		t.Errorf("a ring: %d", have)
	}
}
