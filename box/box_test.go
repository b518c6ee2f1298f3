package box

import (
	"fmt"
	"math"
	"slices"
	"strconv"
	"strings"
	"testing"

	"tracery/api"
	"tracery/ast"
	"tracery/defs"
	"tracery/filter"
	"tracery/forest"
	"tracery/kernel"
	"tracery/terms"
)

// small is the chapter's example.
const small = `start E; layout W; cf E.A = E "+" E; cf E.N = N; cf E = "(" E ")" bracket; lex N = [0-9]; lex W = [\s\n]; prio left A; box A = group(1 _ "+" _ 2);`

// whole is the definition of DOC.md's ten examples.
const whole = `start E; layout W; cf E.Add = E "+" E; cf E.Mul = E "*" E; cf E.Num = N; cf E = "(" E ")" bracket; lex N = [0-9]+; lex W = [\s\n]; prio left Mul > left Add; follow N [0-9];`

// most has each kind of hole, with templates and without.
const most = `start E;
	cf E.Num = N; cf E.Add = E "+" E; cf E.Neg = "~" E; cf E.Nil = "nil";
	cf E.Opt = "o" E? "," N?; cf E.Opts = E? "oo" E?; cf E.Star = "s" {E ";"}* "."; cf E.Stars = "t" E* ".";
	cf E.Plus = "p" {N ", "}+ "."; cf E.Pluses = "q" N+ "."; cf E.Of = "f" F; cf F.In = "i" E "n" "n"; cf F.Out = N;
	cf E = "(" E ")" bracket; cf F = "<<" "<" F ">" ">>" bracket; lex N = [0-9]+; lex N.Hex = "x" [0-9a-f]+; lex W = [\s\n];
	prio Neg > left Add; prio Opt > Add; `

// boxes has templates of each kind of item, and items within items; Num, Nil, Out and Stars have none.
const boxes = `box Add = group(1 nest 2(_ "+" / 2)); box Neg = "~" 1; box Opt = "o" _ 1 / "," _ 2; box Opts = group(1) nest 0() "oo" group(nest 3(_ nest 40(2 /)));
	box Star = "s" nest 1(group(/ 1) /) "."; box Plus = _ / _ "p" 1 "." /; box Pluses = group(group(group("q") 1) ".") group(); box Of = nest 4("f" _ 1); box In = "i" 1 _ "n" "n"; `

func must(t testing.TB, text string) api.Def {
	t.Helper()
	d, fault := defs.Parse(text)
	if fault.Code != api.OK {
		t.Fatalf("%.300q: %v", text, fault)
	}
	return d
}

func made(t testing.TB, d api.Def) api.Kern {
	t.Helper()
	k, code := kernel.Make(d)
	if code != api.OK {
		t.Fatal(code)
	}
	return k
}

func term(t testing.TB, text string) api.Term {
	t.Helper()
	x, fault := terms.Parse(text)
	if fault.Code != api.OK {
		t.Fatalf("%q: %v", text, fault)
	}
	return x
}

// digits makes a term of a short text: a digit is Num of it.
func digits(t testing.TB, short string) api.Term {
	t.Helper()
	text, quoted := "", false
	for _, c := range short {
		if c == '"' {
			quoted = !quoted
		}
		if '0' <= c && c <= '9' && !quoted {
			text += fmt.Sprintf(`Num("%c")`, c)
		} else {
			text += string(c)
		}
	}
	return term(t, text)
}

// shown is a term's text, whatever the term.
func shown(t api.Term) string {
	if text, code := terms.Print(t); code == api.OK {
		return text
	}
	return fmt.Sprintf("%.200v", t)
}

// treeOf is the first tree of a sort, a list or the top over a text.
func treeOf(t testing.TB, k api.Kern, name, text string) api.Tree {
	t.Helper()
	g := k.Gram
	g.Start = slices.Index(k.Names, name)
	list, code := forest.Trees(g, []byte(text), 1)
	if code != api.OK || len(list) == 0 {
		t.Fatalf("%q of %s: %d", text, name, code)
	}
	return list[0]
}

// told is a document in letters: texts in quotes, lines _ and /, then N, G and C of what lies in them.
func told(d api.Doc) string {
	var kids []string
	for _, kid := range d.Kids {
		kids = append(kids, told(kid))
	}
	inner := "(" + strings.Join(kids, " ") + ")"
	switch {
	case d.Kind == api.DText && d.N == 0 && len(kids) == 0:
		return strconv.Quote(d.Text)
	case d.Kind == api.DLine && d.Text == " " && d.N == 0 && len(kids) == 0:
		return "_"
	case d.Kind == api.DLine && d.Text == "" && d.N == 0 && len(kids) == 0:
		return "/"
	case d.Kind == api.DNest && d.Text == "":
		return "N" + strconv.Itoa(d.N) + inner
	case d.Kind == api.DGroup && d.Text == "" && d.N == 0:
		return "G" + inner
	case d.Kind == api.DCat && d.Text == "" && d.N == 0:
		return "C" + inner
	}
	return fmt.Sprintf("?%d%q%d%s", d.Kind, d.Text, d.N, inner)
}

// The chapter's example, and those of the page that print.
func TestExamples(t *testing.T) {
	for _, c := range []struct {
		def, term string
		width     int
		text      string
		code      api.Errno
	}{
		{small, `A(N("1"),A(N("2"),N("3")))`, 80, "1 + (2 + 3)", api.OK}, {small, `A(N("1"),A(N("2"),N("3")))`, 5, "1\n+\n(2\n+\n3)", api.OK},
		{whole, `Mul(Add(Num("1"),Num("2")),Num("3"))`, 80, "(1 + 2) * 3", api.OK}, {whole, `Num("x")`, 80, "", api.ErrLex},
	} {
		if text, code := Print(must(t, c.def), term(t, c.term), c.width); text != c.text || code != c.code {
			t.Errorf("%s in %d: %q %d", c.term, c.width, text, code)
		}
	}
}

// P15.1: documents without templates, and with them; each line is _ or / with a Layout, and C() without one.
func TestDocuments(t *testing.T) {
	for _, c := range []struct{ sort, text, plain, boxed string }{
		// lexical sorts, of any production
		{"N", "12", `"12"`, ""}, {"N", "xa0", `"xa0"`, ""}, {"W", " ", `" "`, ""},
		// a sort, and the top
		{"E", "nil", `G("nil")`, ""}, {"top", "nil", `G("nil")`, ""}, {"E", "12", `G("12")`, ""}, {"top", "12", `G("12")`, ""}, {"F", "12", `G("12")`, ""},
		{"E", "1+2", `G(G("1") _ "+" _ G("2"))`, `C(G(G("1") N2(_ "+" / G("2"))))`}, {"E", "~nil", `G("~" _ G("nil"))`, `C("~" G("nil"))`},
		{"top", "1+2+3", `G(G("1") _ "+" _ G(G("2") _ "+" _ G("3")))`, `C(G(G("1") N2(_ "+" / C(G(G("2") N2(_ "+" / G("3")))))))`},
		// brackets, within one another, and with several literals: no line is in them
		{"E", "(1)", `C("(" G("1") ")")`, ""}, {"top", "((1))", `C("(" C("(" G("1") ")") ")")`, ""}, {"F", "<<<1>>>", `C("<<" "<" G("1") ">" ">>")`, ""}, {"E", "(1+2)+3", `G(C("(" G(G("1") _ "+" _ G("2")) ")") _ "+" _ G("3"))`, `C(G(C("(" C(G(G("1") N2(_ "+" / G("2")))) ")") N2(_ "+" / G("3"))))`},
		{"F", "<<<<<<1>>>>>>", `C("<<" "<" C("<<" "<" G("1") ">" ">>") ">" ">>")`, ""},
		// options that are there and that are left out
		{"E", "o,", `G("o" _ ",")`, `C("o" _ C() / "," _ C())`}, {"E", "onil,", `G("o" _ G("nil") _ ",")`, `C("o" _ G("nil") / "," _ C())`}, {"E", "o,5", `G("o" _ "," _ "5")`, `C("o" _ C() / "," _ "5")`}, {"E", "onil,5", `G("o" _ G("nil") _ "," _ "5")`, `C("o" _ G("nil") / "," _ "5")`},
		{"E", "oo", `G("oo")`, `C(G(C()) N0() "oo" G(N3(_ N40(C() /))))`}, {"E", "niloo1", `G(G("nil") _ "oo" _ G("1"))`, `C(G(G("nil")) N0() "oo" G(N3(_ N40(G("1") /))))`},
		// lists of none, one and several parts, with a separator and without one
		{"E", "s.", `G("s" _ ".")`, `C("s" N1(G(/ C()) /) ".")`}, {"E", "s1.", `G("s" _ C(G("1")) _ ".")`, `C("s" N1(G(/ C(G("1"))) /) ".")`}, {"E", "s1;nil.", `G("s" _ C(G("1") ";" _ G("nil")) _ ".")`, `C("s" N1(G(/ C(G("1") ";" _ G("nil"))) /) ".")`}, {"E", "s1;2;3.", `G("s" _ C(G("1") ";" _ G("2") ";" _ G("3")) _ ".")`, `C("s" N1(G(/ C(G("1") ";" _ G("2") ";" _ G("3"))) /) ".")`},
		{"E", "t.", `G("t" _ ".")`, ""}, {"E", "tnil.", `G("t" _ C(G("nil")) _ ".")`, ""}, {"E", "tnil(1)nil.", `G("t" _ C(G("nil") _ C("(" G("1") ")") _ G("nil")) _ ".")`, ""},
		{"E", "p1.", `G("p" _ C("1") _ ".")`, `C(_ / _ "p" C("1") "." /)`}, {"E", "p1, x2.", `G("p" _ C("1" ", " _ "x2") _ ".")`, `C(_ / _ "p" C("1" ", " _ "x2") "." /)`},
		{"E", "q1.", `G("q" _ C("1") _ ".")`, `C(G(G(G("q") C("1")) ".") G())`}, {"E", "q1x2.", `G("q" _ C("1" _ "x2") _ ".")`, `C(G(G(G("q") C("1" _ "x2")) ".") G())`},
		// another sort
		{"E", "fi1nn", `G("f" _ G("i" _ G("1") _ "n" _ "n"))`, `C(N4("f" _ C("i" G("1") _ "n" "n")))`}, {"E", "f<<<1>>>", `G("f" _ C("<<" "<" G("1") ">" ">>"))`, `C(N4("f" _ C("<<" "<" G("1") ">" ">>")))`},
	} {
		if c.boxed == "" {
			c.boxed = c.plain
		}
		for def, want := range map[string]string{most + "layout W;": c.plain, most + boxes + "layout W;": c.boxed, most: noLines(c.plain), most + boxes: noLines(c.boxed)} {
			d := must(t, def)
			doc, code := Make(d, treeOf(t, made(t, d), c.sort, c.text))
			if code != api.OK || told(doc) != want {
				t.Errorf("%q: %s %d, not %s", c.text, told(doc), code, want)
			}
		}
	}
}

// noLines is a document's text without lines.
func noLines(text string) string {
	for _, line := range []string{"_", "/"} {
		for _, at := range []string{"(%s", " %s"} {
			text = strings.ReplaceAll(text, fmt.Sprintf(at, line), fmt.Sprintf(at, "C()"))
		}
	}
	return text
}

// Gaps are of no matter for a document, whatever stands in them.
func TestGaps(t *testing.T) {
	for _, def := range []string{most, most + boxes} {
		d := must(t, def+"layout W;")
		k := made(t, d)
		for _, texts := range [][]string{{"1+(2+3)", "\n 1\n+  (2 \n\n+ 3\n)\n", " 1+(2+3) "}, {"s1;2.", "s\n1\n;\n2\n."}, {"p1, 2.", "p 1\n, \n2."}} {
			want, _ := Make(d, treeOf(t, k, "E", texts[0]))
			for _, text := range texts {
				if doc, code := Make(d, treeOf(t, k, "top", text)); code != api.OK || told(doc) != told(want) {
					t.Errorf("%q: %s %d, not %s", text, told(doc), code, told(want))
				}
			}
		}
	}
}

// P15.1: a literal or a lexeme with a byte 10, where the tree has it; a separator is a literal, too.
func TestBreaks(t *testing.T) {
	const def = `start E; cf E.A = "a\n" E?; cf E.B = "b" N; cf E.C = "c" {N "\n"}+; cf E.D = "d" {N ",\n,"}* "."; cf E.E = "\ne"; cf E.F = "f" E; cf E = "(" E "\n)" bracket; cf E = "[" E "]" bracket; lex N = [0-9\n]; lex W = [\s\n];`
	for _, d := range []api.Def{must(t, def), must(t, def+"layout W;"), must(t, def+`layout W; box A = group("a\n" _ 1); box B = "b" 1; box C = "c" nest 1(1); box D = "d" _ 1 "."; box E = "\ne"; box F = nest 2(group("f") / 1);`)} {
		k := made(t, d)
		for _, c := range []struct {
			sort, text string
			want       api.Errno
		}{
			{"E", "a\n", api.ErrDoc}, {"top", "a\n", api.ErrDoc}, {"E", "a\nb1", api.ErrDoc}, {"E", "\ne", api.ErrDoc}, {"E", "fffa\n", api.ErrDoc}, {"E", "ffb1", api.OK}, {"top", "b1", api.OK},
			{"E", "b\n", api.ErrDoc}, {"E", "ffb\n", api.ErrDoc}, {"N", "\n", api.ErrDoc}, {"N", "1", api.OK}, {"W", "\n", api.ErrDoc}, {"W", " ", api.OK},
			{"E", "c1", api.OK}, {"E", "c\n", api.ErrDoc}, {"E", "c1\n2", api.ErrDoc}, {"E", "d.", api.OK}, {"E", "d1.", api.OK}, {"E", "d1,\n,2.", api.ErrDoc},
			{"E", "(b1\n)", api.ErrDoc}, {"E", "[b1]", api.OK}, {"E", "[(b1\n)]", api.ErrDoc}, {"E", "f[b1]", api.OK}, {"E", "[b\n]", api.ErrDoc},
		} {
			doc, code := Make(d, treeOf(t, k, c.sort, c.text))
			if code != c.want || code != api.OK && told(doc) != told(api.Doc{}) {
				t.Errorf("%q of %s: %s %d, not %d", c.text, c.sort, told(doc), code, c.want)
			}
		}
	}
}

// printCase is a term, a width, and what is printed.
type printCase struct {
	term  string
	width int
	text  string
}

// P15.2: what is printed, with templates and without, in several widths.
func TestPrint(t *testing.T) {
	layout := most + "layout W;"
	for def, list := range map[string][]printCase{
		layout: {
			{`1`, 80, "1"}, {`1`, 0, "1"}, {`Nil`, math.MinInt, "nil"}, {`Add(1,2)`, 5, "1 + 2"}, {`Add(1,2)`, 4, "1\n+\n2"}, {`Add(1,2)`, 0, "1\n+\n2"}, {`Add(1,2)`, -1, "1\n+\n2"}, {`Add(1,2)`, math.MaxInt, "1 + 2"},
			{`Add(1,Add(2,3))`, 99, "1 + (2 + 3)"}, {`Add(1,Add(2,3))`, 10, "1\n+\n(2 + 3)"}, {`Neg(Add(1,Add(2,3)))`, 99, "~ (1 + (2 + 3))"}, {`Neg(Neg(Add(1,2)))`, 1, "~\n~\n(1\n+\n2)"},
			{`Opt(-,-)`, 9, "o ,"}, {`Opt(?Nil,?"5")`, 99, "o nil , 5"}, {`Opt(?Add(1,2),-)`, 99, "o (1 + 2) ,"}, {`Opts(-,?Nil)`, 3, "oo\nnil"}, {`Star([])`, 9, "s ."}, {`Star([1])`, 9, "s 1 ."}, {`Star([1,2,Nil])`, 99, "s 1; 2; nil ."}, {`Star([1,2,Nil])`, 12, "s\n1;\n2;\nnil\n."},
			{`Stars([Nil,Nil])`, 99, "t nil nil ."}, {`Plus(["1","2"])`, 99, "p 1,  2 ."}, {`Pluses(["x1","x2"])`, 99, "q x1 x2 ."}, {`Of(In(1))`, 99, "f i 1 n n"},
		},
		layout + boxes: {
			{`Add(1,2)`, 4, "1 +2"}, {`Add(1,2)`, 3, "1\n  +\n  2"}, {`Add(1,Add(2,3))`, 99, "1 +(2 +3)"}, {`Add(1,Add(2,3))`, 8, "1\n  +\n  (2 +3)"}, {`Add(1,Add(2,3))`, 7, "1\n  +\n  (2\n    +\n    3)"}, {`Neg(Add(1,2))`, 99, "~(1 +2)"}, {`Opt(?Nil,?"5")`, 99, "o\nnil\n,\n5"}, {`Opts(?Nil,?Nil)`, 9, "niloo nil"}, {`Opts(?Nil,?Nil)`, 8, "niloo\n   nil\n" + strings.Repeat(" ", 43)}, {`Opts(-,-)`, 9, "oo "},
			{`Star([])`, 9, "s\n ."}, {`Star([1,2])`, 4, "s\n 1;\n 2\n ."}, {`Star([1,2])`, 5, "s1; 2\n ."}, {`Of(In(1))`, 99, "f\n    i1\n    nn"},
		},
		most: {
			{`Add(1,Add(2,3))`, 0, "1+(2+3)"}, {`Opt(?Nil,?"5")`, 0, "onil,5"}, {`Star([1,2])`, 0, "s1;2."}, {`Plus(["1","2"])`, 0, "p1, 2."}, {`Of(In(1))`, 99, "fi1nn"},
		},
		most + boxes: {
			{`Add(1,Add(2,3))`, 0, "1+(2+3)"}, {`Opt(?Nil,?"5")`, 0, "onil,5"}, {`Star([1,2])`, 0, "s1;2."}, {`Plus(["1","2"])`, 99, "p1, 2."}, {`Opts(?Nil,?Nil)`, 0, "niloonil"}, {`Of(In(1))`, 99, "fi1nn"},
		},
	} {
		for _, c := range list {
			if text, code := Print(must(t, def), digits(t, c.term), c.width); text != c.text || code != api.OK {
				t.Errorf("%s in %d: %q %d, not %q", c.term, c.width, text, code, c.text)
			}
		}
	}
}

// P15.2: what is printed would be read as something else, or as nothing.
func TestErrPrint(t *testing.T) {
	for _, c := range []struct {
		def, term string
		text      string // what is printed; nothing: ErrPrint
	}{
		// the layout has no blank, or nothing but one, or must have two
		{`start E; layout W; cf E.A = "a" "b"; lex W = "~";`, `A`, ""}, {`start E; layout W; cf E.A = "a" "b"; lex W = "~"; box A = "a" "b";`, `A`, "ab"}, {`start E; layout W; cf E.A = "a" "b"; lex W = " ";`, `A`, "a b"}, {`start E; layout W; cf E.A = "a" "b"; lex W = " "; box A = "a" _ "b";`, `A`, ""}, {`start E; layout W; cf E.A = "a" "b"; lex W = "\n"; box A = "a" _ "b";`, `A`, "a\nb"}, {`start E; layout W; cf E.A = "a" "b"; lex W = "\n";`, `A`, ""}, {`start E; layout W; cf E.A = "a" "b"; lex W = "  ";`, `A`, ""}, {`start E; layout W; cf E.A = "a" "b"; lex W = [\s]; box A = "a" "b" nest 3(/);`, `A`, ""}, {`start E; layout W; cf E.A = "a" "b"; lex W = [\s\n]; box A = "a" "b" nest 3(/);`, `A`, "ab\n   "},
		// two lexemes are read as one, or cut elsewhere
		{`start E; cf E.A = N+; lex N = [0-9]+;`, `A(["12"])`, "12"}, {`start E; cf E.A = N+; lex N = [0-9]+; follow N [0-9];`, `A(["1","2"])`, ""}, {`start E; cf E.A = N+; lex N = [0-9]+; follow N [0-9];`, `A(["12"])`, "12"}, {`start E; cf E.A = N+; lex N = [0-9]+;`, `A(["1","2"])`, "12"}, {`start E; layout W; cf E.A = N+; lex N = [0-9]+; lex W = " "; follow N [0-9];`, `A(["1","2"])`, "1 2"},
		// rejected, or followed by what may not follow
		{`start E; cf E.A = I; lex I = [a-z]+; lex K = "if"; reject I K;`, `A("if")`, ""}, {`start E; cf E.A = I; lex I = [a-z]+; lex K = "if"; reject I K;`, `A("iff")`, "iff"}, {`start E; cf E.A = I ";"; lex I = [a-z]+; follow I [;];`, `A("x")`, ""}, {`start E; layout W; cf E.A = I ";"; lex I = [a-z]+; lex W = " "; follow I [;];`, `A("x")`, "x ;"}, {`start E; layout W; cf E.A = I ";"; lex I = [a-z]+; lex W = " "; follow I [;]; box A = 1 ";";`, `A("x")`, ""},
		// a part too many, or too few
		{`start E; layout W; cf E.A = N+; lex N = "a" | " "; lex W = "~"; box A = group(1 _);`, `A(["a"])`, ""}, {`start E; layout W; cf E.A = N+; lex N = "a" | " "; lex W = "~"; box A = 1;`, `A(["a"," "])`, ""}, {`start E; layout W; cf E.A = "a" N?; lex N = " "; lex W = "~"; box A = "a" group(_ 1);`, `A(-)`, ""}, {`start E; layout W; cf E.A = "a" N?; lex N = " "; lex W = "~"; box A = "a" group(1);`, `A(?" ")`, "a "}, {`start E; cf E.A = N* M* "."; lex N = "a"; lex M = "a";`, `A(["a"],["a","a"])`, "aaa."},
		// a list's parts, where brackets are put around none of them
		{`start E; cf E.A = E+ "."; cf E.B = "b"; cf E.C = E "c"; prio A > C;`, `A([C(B)])`, "bc."}, {`start E; cf E.A = E "a"; cf E.L = "l" {E ","}+; cf E.N = "n"; prio L > A;`, `L([A(N)])`, "lna"},
		// two constructors of one text: both are read
		{`start E; cf E.A = "a"; cf E.B = "a";`, `A`, "a"}, {`start E; cf E.A = "a"; cf E.B = "a";`, `B`, "a"}, {`start E; cf E.A = F; cf E.B = "a"; cf F.C = "a"; prio A > C;`, `B`, "a"},
		// another term's text
		{`start E; cf E.A = "a" E?; cf E.B = E "b"; prio B > A; cf E = "(" E ")" bracket;`, `B(A(-))`, "(a)b"}, {`start E; cf E.A = "a" E?; cf E.B = E "b"; prio A > B; cf E = "(" E ")" bracket;`, `A(?B(A(-)))`, "a(ab)"},
	} {
		want := api.OK
		if c.text == "" {
			want = api.ErrPrint
		}
		if text, code := Print(must(t, c.def), term(t, c.term), 10); text != c.text || code != want {
			t.Errorf("%s of %s: %q %d, not %q", c.term, c.def, text, code, c.text)
		}
	}
	// the gap is too narrow where the line is broken
	d := must(t, `start E; layout W; cf E.A = "a" "b"; lex W = " ";`)
	for width, want := range map[int]api.Errno{3: api.OK, 2: api.ErrPrint, -5: api.ErrPrint} {
		if text, code := Print(d, term(t, "A"), width); code != want || (text == "a b") != (want == api.OK) {
			t.Errorf("in %d: %q %d", width, text, code)
		}
	}
}

// P15.2: a text of more than MaxTrees trees: the term of one of the first is printed, that of another is not.
func TestManyTrees(t *testing.T) {
	d := must(t, `start E; cf E.A = N N N; lex N = [a]+;`)
	const n = 60 // bytes
	k := made(t, d)
	if count, _ := filter.Count(k.Gram, k.Filters, []byte(strings.Repeat("a", n))); count != (n-1)*(n-2)/2 || count <= api.MaxTrees {
		t.Fatal(count)
	}
	rank := 0
	for j := 2; j < n; j++ {
		for i := 1; i < j; i++ {
			if rank < 3 || rank > api.MaxTrees-4 && rank < api.MaxTrees+4 || rank%300 == 0 {
				x := api.Term{Kind: api.TApp, Cons: "A"}
				for _, bytes := range []int{i, j - i, n - j} {
					x.Kids = append(x.Kids, api.Term{Kind: api.TLex, Text: []byte(strings.Repeat("a", bytes))})
				}
				text, code := Print(d, x, 80)
				if rank < api.MaxTrees && (text != strings.Repeat("a", n) || code != api.OK) || rank >= api.MaxTrees && (text != "" || code != api.ErrPrint) {
					t.Errorf("tree %d: %q %d", rank, text, code)
				}
			}
			rank++
		}
	}
	// with bans a row of operands has one tree; without them it has as many as there are ways to put brackets, and those with brackets at the left come last
	row := digits(t, "7")
	for range 14 {
		row = api.Term{Kind: api.TApp, Cons: "Add", Kids: []api.Term{row, digits(t, "7")}}
	}
	for _, def := range []string{whole, whole + `box Add = 1 "+" 2;`} {
		d = must(t, def)
		if text, code := Print(d, row, 80); code != api.OK || strings.Count(text, "+") != 14 {
			t.Errorf("%q %d", text, code)
		}
		d.Chains = nil
		if text, code := Print(d, row, 80); code != api.ErrPrint || text != "" {
			t.Errorf("%q %d", text, code)
		}
	}
	// none of the first thousand trees is the one, though all are of one term but for a lexeme's own tree
	d = must(t, `start E; cf E.A = "x" N; cf E.B = M; lex M = "x" L L L; lex L = [a]+; lex N = [a]+;`)
	many := "x" + strings.Repeat("a", 60)
	for text, want := range map[string]api.Errno{`A("` + many[1:] + `")`: api.OK, `B("` + many + `")`: api.OK} {
		if have, code := Print(d, term(t, text), 80); code != want || have != many {
			t.Errorf("%s: %q %d", text, have, code)
		}
	}
	slices.Reverse(d.Prods[:2])
	for text, want := range map[string]api.Errno{`A("` + many[1:] + `")`: api.ErrPrint, `B("` + many + `")`: api.OK} {
		if have, code := Print(d, term(t, text), 80); code != want || (have == many) != (want == api.OK) {
			t.Errorf("%s: %q %d", text, have, code)
		}
	}
}

// P15.2: a text of MaxInput bytes, and of one more.
func TestLongTexts(t *testing.T) {
	for _, def := range []string{`start E; cf E.A = N N; lex N = [a]+; follow N [a];`, `start E; layout W; cf E.A = N N; lex N = [a]+; lex W = [\s\n]; follow N [a];`, `start E; cf E.A = N M; lex N = [a]+; lex M = [b]+; follow N [a];`} {
		d := must(t, def)
		for _, bytes := range []int{1, api.MaxInput - 3, api.MaxInput - 2, api.MaxInput - 1, api.MaxInput, api.MaxInput + 1} {
			for _, width := range []int{0, 9999} {
				second := "a"
				if d.Prods[0].Syms[1].Name == "M" {
					second = "b"
				}
				x := api.Term{Kind: api.TApp, Cons: "A", Kids: []api.Term{{Kind: api.TLex, Text: []byte(strings.Repeat("a", bytes))}, {Kind: api.TLex, Text: []byte(second)}}}
				size, want := bytes+1, api.OK
				if d.Layout != "" {
					size++
				} else if second == "a" {
					want = api.ErrPrint
				}
				if size > api.MaxInput {
					want = api.ErrLong
				}
				if bytes > api.MaxInput {
					want = api.ErrLex
				}
				if text, code := Print(d, x, width); code != want || code == api.OK && len(text) != size || code != api.OK && text != "" {
					t.Errorf("%d bytes in %d: %d bytes, %d, not %d", bytes, width, len(text), code, want)
				}
			}
		}
	}
	// layout's bounds: of bytes, of documents, of their depth
	d := must(t, `start E; layout W; cf E.L = "l" {N ","}* "."; cf E.D = "d" E; cf E.O = "o" E; cf E.G = "g" E; lex N = [a]+; lex W = [\s\n]; box D = "d" 1; box O = nest 40(/ "o" 1); box G = group(group(group("g" 1)));`)
	long := func(n, bytes int) api.Term {
		x := api.Term{Kind: api.TLex, Text: []byte(strings.Repeat("a", bytes))}
		return api.Term{Kind: api.TApp, Cons: "L", Kids: []api.Term{{Kind: api.TList, Kids: slices.Repeat([]api.Term{x}, n)}}}
	}
	deep := func(cons string, n int) api.Term {
		x := term(t, "L([])")
		for range n {
			x = api.Term{Kind: api.TApp, Cons: cons, Kids: []api.Term{x}}
		}
		return x
	}
	for i, c := range []struct {
		x    api.Term
		want api.Errno
	}{
		{long(170, 1), api.OK}, {long(171, 1), api.ErrLong}, {long(6600, 512), api.ErrLong}, {long(6665, 1), api.ErrLong}, {long(6666, 1), api.ErrDoc}, {long(7000, 512), api.ErrDoc},
		{deep("D", 198), api.OK}, {deep("D", 199), api.ErrTerm}, {deep("G", 49), api.OK}, {deep("G", 50), api.ErrDoc}, {deep("O", 4), api.OK}, {deep("O", 5), api.ErrLong}, {deep("O", 98), api.ErrLong}, {deep("O", 100), api.ErrDoc},
	} {
		if text, code := Print(d, c.x, 9999); code != c.want || code != api.OK && text != "" {
			t.Errorf("%d: %q %d, not %d", i, text, code, c.want)
		}
	}
}

// What is printed is read again: terms of up to three operators, in several widths.
func TestReadAgain(t *testing.T) {
	for _, def := range []string{whole, whole + ` box Mul = group(1 nest 2(/ "*" / 2)); box Add = group(1 nest 3(_ "+") _ group(2));`} {
		d := must(t, def)
		k := made(t, d)
		for n := range 4 {
			for _, short := range operations([]string{"Add", "Mul"}, n) {
				x := digits(t, short)
				for _, width := range []int{0, 4, 7, 80} {
					text, code := Print(d, x, width)
					list, _ := filter.Trees(k.Gram, k.Filters, []byte(text), 2)
					if code != api.OK || len(list) != 1 {
						t.Fatalf("%s in %d: %q %d has %d trees", short, width, text, code, len(list))
					}
					if back, _ := ast.Implode(d, list[0]); !terms.Same(back, x) {
						t.Fatalf("%s in %d: %q is read as %s", short, width, text, shown(back))
					}
				}
			}
		}
	}
}

// operations is all terms of so many operators.
func operations(names []string, n int) []string {
	if n == 0 {
		return []string{"7"}
	}
	var list []string
	for left := range n {
		for _, a := range operations(names, left) {
			for _, b := range operations(names, n-1-left) {
				for _, name := range names {
					list = append(list, name+"("+a+","+b+")")
				}
			}
		}
	}
	return list
}

// The same is told each time.
func TestAgain(t *testing.T) {
	d := must(t, most+boxes+"layout W;")
	x := digits(t, `Add(Star([Opts(?1,-),Neg(Add(2,3))]),Add(Of(In(Nil)),Pluses(["1","2"])))`)
	tree := treeOf(t, made(t, d), "top", "s1oo;~(2+3).+(finilnn+q1 2.)")
	doc, e1 := Make(d, tree)
	text, e2 := Print(d, x, 9)
	if e1 != api.OK || e2 != api.OK {
		t.Fatal(e1, e2)
	}
	for range 9 {
		again, _ := Make(d, tree)
		if more, _ := Print(d, x, 9); told(again) != told(doc) || more != text {
			t.Errorf("%q, then %q", text, more)
		}
	}
}
