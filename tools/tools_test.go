package tools

import (
	"math"
	"slices"
	"strings"
	"testing"

	"tracery/api"
	"tracery/terms"
)

const (
	// small is the chapter's example.
	small = `start E; cf E.A = E "+" E; cf E.N = N; lex N = [0-9]; prio left A;`
	// whole is the definition of the document's ten examples.
	whole = `start E; layout W; cf E.Add = E "+" E; cf E.Mul = E "*" E; cf E.Num = N; cf E = "(" E ")" bracket; lex N = [0-9]+; lex W = [\s\n]; prio left Mul > left Add; follow N [0-9];`
	// loose says of no sum which it is.
	loose = `start E; cf E.A = E "+" E; cf E.N = N; lex N = [0-9];`
	// never has no text that is one.
	never = `start E; cf E.A = "a" E;`
	// names has follows and rejects that drop all trees of some texts.
	names = `start E; layout W; cf E.Id = I; cf E.If = "if" E; cf E.Two = E E; lex I = [a-z]+; lex K = "if" | "do"; lex W = [\s]; follow I [a-z]; reject I K; prio If > left Two;`
)

func load(t testing.TB, text string) *Lang {
	t.Helper()
	l, fault, name := Load(text)
	if l == nil || fault != (api.Fault{}) || name != "" {
		t.Fatalf("%.300q: %v %q", text, fault, name)
	}
	return l
}

// shown is a term's text, empty of the zero Term.
func shown(t *testing.T, x api.Term) string {
	t.Helper()
	if terms.Same(x, api.Term{}) {
		return ""
	}
	text, code := terms.Print(x)
	if code != api.OK {
		t.Fatalf("%+v: %d", x, code)
	}
	return text
}

// P18.1: what Load refuses, with the place and the name.
func TestLoad(t *testing.T) {
	many := strings.Repeat(`lex A = "a";`, api.MaxProds)
	for _, c := range []struct {
		text string
		at   int
		code api.Errno
		name string
	}{
		// defs.Parse's faults have a place and no name
		{"?", 0, api.ErrWord, ""}, {"lex A = ;", 8, api.ErrWord, ""}, {"start A; start B;", 9, api.ErrTwice, ""}, {`cf E = "(" E;`, 12, api.ErrWord, ""}, {"lex A = [z-a];", 9, api.ErrRange, ""},
		{"start E; \xff", 9, api.ErrByte, ""}, {`lex A = "\q";`, 9, api.ErrEscape, ""}, {`lex A = "a`, 8, api.ErrOpen, ""}, {"start E", 7, api.ErrWord, ""}, {"start " + strings.Repeat("E", 33) + ";", 6, api.ErrName, ""},
		{"box A = 07;", 8, api.ErrNumber, ""}, {many + "lex B = [b];", len(many), api.ErrLong, ""}, {strings.Repeat(" ", api.MaxText+1), 0, api.ErrLong, ""}, {"start E; cf E.A = E; start F;", 21, api.ErrTwice, ""},
		// check.Check's errors have the place 0 and mostly a name
		{"", 0, api.ErrStart, ""}, {strings.Repeat(" ", api.MaxText), 0, api.ErrStart, ""}, {"start E;", 0, api.ErrStart, "E"}, {`lex E = "a"; start E;`, 0, api.ErrStart, "E"}, {`cf E.A = "a";`, 0, api.ErrStart, ""},
		{`start E; cf E.A = "a"; lex E = "b";`, 0, api.ErrMixed, "E"}, {`start E; layout F; cf E.A = "a"; cf F.B = "b";`, 0, api.ErrLayout, "F"}, {"start E; cf E.A = F;", 0, api.ErrUndefined, "F"},
		{"start E; cf E.A = [a];", 0, api.ErrKind, "E"}, {`start E; cf E.A = "a"; cf E.A = "b";`, 0, api.ErrCons, "A"}, {`start E; cf E.A = "a"; cf E = E "a" bracket;`, 0, api.ErrBracket, "E"},
		{`start E; cf E.A = "a" E? E? E? E? E?;`, 0, api.ErrLong, "E"}, {`start E; cf E.A = N*; lex N = "n";`, 0, api.ErrNull, "E"}, {"start E; cf E.A = E;", 0, api.ErrCycle, "E"},
		{`start E; cf E.A = "a"; reject E E;`, 0, api.ErrReject, "E"}, {`start E; cf E.A = "a"; prio B;`, 0, api.ErrPrio, "B"}, {`start E; cf E.A = "a"; follow E [];`, 0, api.ErrFollow, "E"}, {`start E; cf E.A = "a"; box B = "a";`, 0, api.ErrBox, "B"},
	} {
		l, fault, name := Load(c.text)
		if l != nil || fault != (api.Fault{At: c.at, Code: c.code}) || name != c.name {
			t.Errorf("%.60q: %v %v %q, not %d at %d %q", c.text, l != nil, fault, name, c.code, c.at, c.name)
		}
	}
	for _, text := range []string{small, whole, loose, never, names, "# a remark\n" + small, small + strings.Repeat(" ", api.MaxText-len(small))} {
		load(t, text)
	}
}

// P18.1: the sorts of a language, and of none.
func TestSorts(t *testing.T) {
	for text, want := range map[string]string{small: "E N", whole: "E N W", names: "E I K W", never: "E", `lex B = "b"; cf A.A = B; lex C = B; start A;`: "B A C"} {
		if have := load(t, text).Sorts(); strings.Join(have, " ") != want {
			t.Errorf("%s: %q", text, have)
		}
	}
}

// P1: a nil Lang in each of its calls.
func TestNil(t *testing.T) {
	var l *Lang
	for _, n := range []int{math.MinInt, -1, 0, 1, api.MaxInput + 1, math.MaxInt} {
		if list := l.Sorts(); len(list) > 0 {
			t.Errorf("%q", list)
		}
		if a, code := l.Read(make([]byte, min(max(n, 0), 1000))); code != api.ErrArg || a.Count != 0 || a.Last != 0 || !terms.Same(a.Term, api.Term{}) {
			t.Errorf("%+v %d", a, code)
		}
		for _, text := range []string{"", "A", "?", strings.Repeat(" ", api.MaxText+1)} {
			if have, fault := l.Print(text, n); have != "" || fault != (api.Fault{Code: api.ErrArg}) {
				t.Errorf("%q %v", have, fault)
			}
		}
		if x, code := l.Search(n, n); code != api.ErrArg || x.Kind != 0 || len(x.Word) > 0 || x.Tried != 0 {
			t.Errorf("%+v %d", x, code)
		}
	}
	if a, code := l.Read(nil); code != api.ErrArg || a.Last != 0 {
		t.Errorf("%+v %d", a, code)
	}
}

// A Lang that no Load made has no texts, and no call of it panics.
func TestHandMadeLang(t *testing.T) {
	l := new(Lang)
	if list := l.Sorts(); len(list) > 0 {
		t.Errorf("%q", list)
	}
	for _, w := range []string{"", "a", strings.Repeat("a", api.MaxInput+1)} {
		if a, code := l.Read([]byte(w)); code == api.OK || a.Count != 0 || !terms.Same(a.Term, api.Term{}) {
			t.Errorf("%+v %d", a, code)
		}
	}
	if text, fault := l.Print("A", 9); text != "" || fault.Code == api.OK {
		t.Errorf("%q %v", text, fault)
	}
	if x, code := l.Search(5, 5); code == api.OK || x.Tried != 0 {
		t.Errorf("%+v %d", x, code)
	}
}

// P18.2: what reading comes to.
func TestRead(t *testing.T) {
	for _, c := range []struct {
		def, w string
		code   api.Errno
		count  int
		last   int
		term   string
	}{
		{small, "1+2+3", api.OK, 1, 5, `A(A(N("1"),N("2")),N("3"))`}, {small, "7", api.OK, 1, 1, `N("7")`},
		// texts that are not read, with their Last
		{small, "1+", api.ErrNone, 0, 2, ""}, {small, "", api.ErrNone, 0, 0, ""}, {small, "x", api.ErrNone, 0, 0, ""}, {small, "12", api.ErrNone, 0, 1, ""}, {small, "1+2+x+4", api.ErrNone, 0, 4, ""}, {small, "1 +2", api.ErrNone, 0, 1, ""},
		{never, "", api.ErrNone, 0, -1, ""}, {never, "a", api.ErrNone, 0, -1, ""}, {never, "x", api.ErrNone, 0, -1, ""},
		// more than one tree that is kept: the first one's term
		{loose, "1+2+3", api.OK, 2, 5, `A(N("1"),A(N("2"),N("3")))`}, {loose, "1+2+3+4", api.OK, 5, 7, `A(N("1"),A(N("2"),A(N("3"),N("4"))))`}, {loose, "1+2", api.OK, 1, 3, `A(N("1"),N("2"))`},
		{loose, strings.Repeat("1+", 255) + "1+", api.ErrNone, 0, api.MaxInput, ""},
		// all trees are dropped by filters: Last is at the end, since it asks the grammar alone
		{names, "if", api.ErrNone, 0, 2, ""}, {names, "do", api.ErrNone, 0, 2, ""}, {names, "if if", api.ErrNone, 0, 5, ""}, {names, "if do a", api.ErrNone, 0, 7, ""},
		{names, "ifa", api.OK, 2, 3, `Id("ifa")`}, {names, "dog", api.OK, 1, 3, `Id("dog")`}, {names, "a b c", api.OK, 1, 5, `Two(Two(Id("a"),Id("b")),Id("c"))`}, {names, " if a b ", api.OK, 1, 8, `Two(If(Id("a")),Id("b"))`},
		{`start E; cf E.A = E "+" E; cf E.N = N; lex N = [0-9]; prio non A;`, "1+2+3", api.ErrNone, 0, 5, ""},
		// gaps, brackets, breaks
		{whole, " ( 1 +\n2 ) * 3 ", api.OK, 1, 15, `Mul(Add(Num("1"),Num("2")),Num("3"))`}, {whole, "((((7))))", api.OK, 1, 9, `Num("7")`}, {whole, "(1+2", api.ErrNone, 0, 4, ""}, {whole, "1)", api.ErrNone, 0, 1, ""},
		{whole, "\xff", api.ErrNone, 0, 0, ""}, {whole, "1\x00", api.ErrNone, 0, 1, ""},
		// each kind of hole
		{`start E; cf E.A = "a" F? "," F* ";" {F "/"}+; lex F = [f-h];`, "a,;f", api.OK, 1, 4, `A(-,[],["f"])`}, {`start E; cf E.A = "a" F? "," F* ";" {F "/"}+; lex F = [f-h];`, "af,gh;f/h", api.OK, 1, 9, `A(?"f",["g","h"],["f","h"])`},
	} {
		have, code := load(t, c.def).Read([]byte(c.w))
		if code != c.code || have.Count != c.count || have.Last != c.last || shown(t, have.Term) != c.term {
			t.Errorf("%q: %d %d %s (%d), not %d %d %s (%d)", c.w, have.Count, have.Last, shown(t, have.Term), code, c.count, c.last, c.term, c.code)
		}
	}
}

// Texts of MaxInput bytes and of one more; counts up to MaxCount.
func TestReadLong(t *testing.T) {
	l := load(t, `start E; cf E.A = {N "+"}+; cf E.B = M "x"; lex N = [0-9]+; lex M = M M | [a];`)
	for _, c := range []struct {
		w    string
		code api.Errno
		n    int
		last int
	}{
		{strings.Repeat("1", api.MaxInput), api.OK, 1, api.MaxInput}, {strings.Repeat("1", api.MaxInput+1), api.ErrLong, 0, 0}, {strings.Repeat("1", 1<<20), api.ErrLong, 0, 0}, {strings.Repeat("?", api.MaxInput+1), api.ErrLong, 0, 0},
		{strings.Repeat("1+", api.MaxInput/2-1) + "11", api.OK, 1, api.MaxInput}, {strings.Repeat("1+", api.MaxInput/2), api.ErrNone, 0, api.MaxInput}, {strings.Repeat("1", api.MaxInput-1) + "?", api.ErrNone, 0, api.MaxInput - 1},
		{"aaaaax", api.OK, 14, 6}, {strings.Repeat("a", 34) + "x", api.OK, 212336130412243110, 35}, {strings.Repeat("a", api.MaxInput-1) + "x", api.OK, api.MaxCount, api.MaxInput},
	} {
		have, code := l.Read([]byte(c.w))
		if code != c.code || have.Count != c.n || have.Last != c.last || (have.Term.Kind == api.TApp) != (code == api.OK) {
			t.Errorf("%.40q: %d %d (%d), not %d %d (%d)", c.w, have.Count, have.Last, code, c.n, c.last, c.code)
		}
	}
}

// A tree may be deeper than terms that can be written, and its term is told whole.
func TestReadDeep(t *testing.T) {
	l := load(t, `start E; cf E.A = "a" E; cf E.B = "b"; cf E = "(" E ")" bracket;`)
	for n, code := range map[int]api.Errno{0: api.OK, 1: api.OK, api.MaxNest - 1: api.OK, api.MaxNest: api.ErrTerm, api.MaxInput - 1: api.ErrTerm} {
		have, e := l.Read([]byte(strings.Repeat("a", n) + "b"))
		size, deep := terms.Size(have.Term)
		if _, c := terms.Print(have.Term); e != api.OK || have.Count != 1 || have.Last != n+1 || size != n+1 || deep != n+1 || c != code {
			t.Errorf("%d: %d deep, %d, %d", n, deep, e, c)
		}
	}
	if have, e := l.Read([]byte(strings.Repeat("(", 255) + "b" + strings.Repeat(")", 255))); e != api.OK || shown(t, have.Term) != "B" {
		t.Errorf("%+v %d", have, e)
	}
}

// P18.3: what is printed, and the faults.
func TestPrint(t *testing.T) {
	for _, c := range []struct {
		def, text string
		width     int
		want      string
		fault     api.Fault
	}{
		{small, `N("7")`, 9, "7", api.Fault{}}, {small, ` A ( N("1") ,	N("2")` + "\r\n)", 9, "1+2", api.Fault{}},
		{whole, `Mul(Add(Num("1"),Num("2")),Num("3"))`, 80, "(1 + 2) * 3", api.Fault{}}, {whole, `Add(Num("1"),Num("2"))`, 4, "1\n+\n2", api.Fault{}}, {whole, `Add(Num("1"),Num("2"))`, 5, "1 + 2", api.Fault{}},
		{whole, `Add(Num("1"),Num("2"))`, 0, "1\n+\n2", api.Fault{}}, {whole, `Add(Num("1"),Num("2"))`, -5, "1\n+\n2", api.Fault{}}, {whole, `Add(Num("1"),Num("2"))`, math.MinInt, "1\n+\n2", api.Fault{}}, {whole, `Add(Num("1"),Num("2"))`, math.MaxInt, "1 + 2", api.Fault{}},
		// terms.Parse's faults, with their places
		{small, "", 9, "", api.Fault{At: 0, Code: api.ErrShort}}, {small, "A(", 9, "", api.Fault{At: 2, Code: api.ErrShort}}, {small, `N("7") x`, 9, "", api.Fault{At: 7, Code: api.ErrRest}}, {small, `A(N("1"),)`, 9, "", api.Fault{At: 9, Code: api.ErrByte}},
		{small, `N("\q")`, 9, "", api.Fault{At: 3, Code: api.ErrEscape}}, {small, `N("7)`, 9, "", api.Fault{At: 2, Code: api.ErrOpen}}, {small, "N" + strings.Repeat("n", api.MaxName), 9, "", api.Fault{At: 0, Code: api.ErrName}}, {small, strings.Repeat(" ", api.MaxText+1), 9, "", api.Fault{At: 0, Code: api.ErrLong}},
		{small, strings.Repeat("?", api.MaxNest) + "A", 9, "", api.Fault{At: api.MaxNest, Code: api.ErrLong}}, {small, "\xff", -1, "", api.Fault{At: 0, Code: api.ErrByte}},
		// box.Print's errors, with the place 0
		{small, ` "7"`, 9, "", api.Fault{Code: api.ErrSort}}, {small, `   X`, 9, "", api.Fault{Code: api.ErrSort}}, {small, `N("x")`, 9, "", api.Fault{Code: api.ErrLex}}, {small, `N("12")`, 9, "", api.Fault{Code: api.ErrLex}},
		{small, `A(N("1"),A(N("2"),N("3")))`, 9, "", api.Fault{Code: api.ErrNeed}}, {names, `Id("if")`, 9, "", api.Fault{Code: api.ErrPrint}}, {names, `Two(If(Id("a")),Id("b"))`, 80, "if a b", api.Fault{}},
		{`start E; cf E.A = "\n";`, "A", 9, "", api.Fault{Code: api.ErrDoc}}, {`start E; cf E.A = N "+" N; lex N = [0-9]+;`, `A("` + strings.Repeat("1", 300) + `","` + strings.Repeat("2", 300) + `")`, 9, "", api.Fault{Code: api.ErrLong}},
	} {
		if have, fault := load(t, c.def).Print(c.text, c.width); have != c.want || fault != c.fault {
			t.Errorf("%.60q in %d: %q %v, not %q %v", c.text, c.width, have, fault, c.want, c.fault)
		}
	}
}

// P18.3: what a search comes to.
func TestSearch(t *testing.T) {
	for _, c := range []struct {
		def       string
		n, budget int
		kind      int
		word      string
		tried     int
		code      api.Errno
	}{
		{small, 3, 99, api.QNone, "", 15, api.OK}, {small, 3, 15, api.QNone, "", 15, api.OK}, {small, 3, 14, api.QExhausted, "", 14, api.OK}, {small, 0, 1, api.QNone, "", 1, api.OK}, {small, 0, 0, api.QExhausted, "", 0, api.OK},
		{loose, 5, 1000, api.QWitness, "0+0+0", 53, api.OK}, {loose, api.MaxInput, 100000, api.QWitness, "0+0+0", 53, api.OK}, {loose, 5, 53, api.QWitness, "0+0+0", 53, api.OK}, {loose, 5, 52, api.QExhausted, "", 52, api.OK}, {loose, 4, 99, api.QNone, "", 31, api.OK},
		{small, -1, 9, 0, "", 0, api.ErrArg}, {small, api.MaxInput + 1, 9, 0, "", 0, api.ErrArg}, {small, 3, -1, 0, "", 0, api.ErrArg}, {small, 3, 100001, 0, "", 0, api.ErrArg}, {small, math.MinInt, math.MaxInt, 0, "", 0, api.ErrArg}, {small, math.MaxInt, 3, 0, "", 0, api.ErrArg},
		{never, 3, 99, api.QNone, "", 4, api.OK}, {`start E; cf E.A = N; lex N = [];`, 9, 99, api.QNone, "", 1, api.OK},
	} {
		have, code := load(t, c.def).Search(c.n, c.budget)
		if have.Kind != c.kind || string(have.Word) != c.word || have.Tried != c.tried || code != c.code {
			t.Errorf("%s, %d, %d: %+v %d", c.def, c.n, c.budget, have, code)
		}
	}
}

// What is told is the caller's.
func TestMemory(t *testing.T) {
	l := load(t, loose)
	for range 2 {
		sorts := l.Sorts()
		w := []byte("1+2+3")
		a, _ := l.Read(w)
		b, _ := l.Read(w)
		x, _ := l.Search(5, 99)
		if !slices.Equal(sorts, []string{"E", "N"}) || shown(t, a.Term) != `A(N("1"),A(N("2"),N("3")))` || string(w) != "1+2+3" || string(x.Word) != "0+0+0" {
			t.Fatalf("%q %+v %q %+v", sorts, a, w, x)
		}
		clear(sorts)
		clear(w)
		clear(x.Word)
		clear(a.Term.Kids[0].Kids[0].Text)
		clear(a.Term.Kids[1].Kids)
		clear(a.Term.Kids)
		if shown(t, b.Term) != `A(N("1"),A(N("2"),N("3")))` {
			t.Errorf("an answer changed with another one: %+v", b)
		}
	}
	// what lies behind a text is not read, nor changed
	w := []byte("1+2+3")
	if a, code := l.Read(w[:3]); code != api.OK || shown(t, a.Term) != `A(N("1"),N("2"))` || string(w) != "1+2+3" {
		t.Errorf("%+v %d %q", a, code, w)
	}
	// lists that are nil and lists that are empty are the same
	for _, w := range [][]byte{nil, {}} {
		if a, code := l.Read(w); code != api.ErrNone || a.Last != 0 || a.Count != 0 {
			t.Errorf("%+v %d", a, code)
		}
	}
}
