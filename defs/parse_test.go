package defs

import (
	"reflect"
	"strconv"
	"strings"
	"testing"

	"tracery/api"
	"tracery/charset"
	"tracery/words"
)

// must reads a text that says a definition.
func must(t *testing.T, text string) api.Def {
	t.Helper()
	d, f := Parse(text)
	if f != (api.Fault{}) {
		t.Fatalf("Parse(%q): %v", text, f)
	}
	return d
}

// faulty holds the fault of a text against the one that is wanted.
func faulty(t *testing.T, text string, at int, code api.Errno) {
	t.Helper()
	d, f := Parse(text)
	if want := (api.Fault{At: at, Code: code}); f != want || !reflect.DeepEqual(d, api.Def{}) {
		t.Errorf("Parse(%.90q) = %v %v, not %v", text, d, f, want)
	}
}

func repeat(n int, one string) string { return strings.Repeat(one, n) }

func TestParseExamples(t *testing.T) {
	d := must(t, `cf E.A=E "+" E;prio left A;`)
	if s, e := Print(d); e != api.OK || s != "cf E.A = E \"+\" E;\nprio left A;\n" {
		t.Errorf("Print = %q %v", s, e)
	}
	faulty(t, "lex A = ;", 8, api.ErrWord)
	faulty(t, "start A; start B;", 9, api.ErrTwice)
	faulty(t, `cf E = "(" E;`, 12, api.ErrWord)
}

func lit(text string) api.Sym { return api.Sym{Kind: api.SLit, Text: text} }

func sort(kind int, name string) api.Sym { return api.Sym{Kind: kind, Name: name} }

func set(kind int, b ...byte) api.Sym { return api.Sym{Kind: kind, Set: charset.Of(b...)} }

func sep(kind int, name, text string) api.Sym { return api.Sym{Kind: kind, Name: name, Sep: text} }

// statements are texts of one statement, and what they say.
var statements = []struct {
	text string
	want api.Def
}{
	{"", api.Def{}},
	{"  # nothing", api.Def{}},
	{"start A;", api.Def{Start: "A"}},
	{"layout Start;", api.Def{Layout: "Start"}},
	{`lex A = "";`, api.Def{Prods: []api.Prod{{Lex: true, Sort: "A", Syms: []api.Sym{lit("")}}}}},
	{`lex A . B = "\x00\n" | B [a]? | []+;`, api.Def{Prods: []api.Prod{
		{Lex: true, Sort: "A", Cons: "B", Syms: []api.Sym{lit("\x00\n")}},
		{Lex: true, Sort: "A", Cons: "B", Syms: []api.Sym{sort(api.SSort, "B"), set(api.SOpt, 'a')}},
		{Lex: true, Sort: "A", Cons: "B", Syms: []api.Sym{set(api.SPlus)}},
	}}},
	{`lex A = {B ","}* [b] [a]* A? A* A+;`, api.Def{Prods: []api.Prod{{Lex: true, Sort: "A", Syms: []api.Sym{
		sep(api.SStar, "B", ","), set(api.SSet, 'b'), set(api.SStar, 'a'),
		sort(api.SOpt, "A"), sort(api.SStar, "A"), sort(api.SPlus, "A"),
	}}}}},
	{`cf E.A = E "+" {F "\""}+ "(" ")" [\s];`, api.Def{Prods: []api.Prod{{Sort: "E", Cons: "A", Syms: []api.Sym{
		sort(api.SSort, "E"), lit("+"), sep(api.SPlus, "F", `"`), lit("("), lit(")"), set(api.SSet, ' '),
	}}}}},
	{`cf E = "(" E ")" bracket;`, api.Def{Prods: []api.Prod{{Sort: "E", Bracket: true, Syms: []api.Sym{lit("("), sort(api.SSort, "E"), lit(")")}}}}},
	{"prio A;", api.Def{Chains: [][]api.Group{{{Cons: []string{"A"}}}}}},
	{"prio left A B > right C > non D E F > A;", api.Def{Chains: [][]api.Group{{
		{Assoc: api.ALeft, Cons: []string{"A", "B"}}, {Assoc: api.ARight, Cons: []string{"C"}},
		{Assoc: api.ANon, Cons: []string{"D", "E", "F"}}, {Assoc: api.ANone, Cons: []string{"A"}},
	}}}},
	{"follow A [a];", api.Def{Follows: []api.Follow{{Sort: "A", Set: charset.Of('a')}}}},
	{"follow A [];", api.Def{Follows: []api.Follow{{Sort: "A"}}}},
	{"reject A B;", api.Def{Rejects: []api.Reject{{Sort: "A", By: "B"}}}},
	{"box A =;", api.Def{Boxes: []api.Box{{Cons: "A"}}}},
	{`box A = "" 0 _ / nest 999999 ( 7 nest 0 ( ) ) group ( "x" group ( / ) _ );`, api.Def{Boxes: []api.Box{{Cons: "A", Items: []api.Item{
		{Kind: api.BText}, {Kind: api.BHole}, {Kind: api.BLine}, {Kind: api.BCut},
		{Kind: api.BNest, N: 999999, Items: []api.Item{{Kind: api.BHole, N: 7}, {Kind: api.BNest}}},
		{Kind: api.BGroup, Items: []api.Item{{Kind: api.BText, Text: "x"}, {Kind: api.BGroup, Items: []api.Item{{Kind: api.BCut}}}, {Kind: api.BLine}}},
	}}}}},
}

func TestParseStatements(t *testing.T) {
	for _, c := range statements {
		if d := must(t, c.text); !reflect.DeepEqual(d, c.want) {
			t.Errorf("Parse(%q) = %+v", c.text, d)
		}
	}
}

func TestParseOrder(t *testing.T) {
	d := must(t, `box B =; reject C D; follow E [e]; prio F; lex G = "g"; layout H; start I;
		box J =; reject K L; follow M [m]; prio N; lex O = "o" | "p"; cf P.Q = "q";`)
	want := api.Def{
		Start: "I", Layout: "H",
		Prods: []api.Prod{
			{Lex: true, Sort: "G", Syms: []api.Sym{lit("g")}}, {Lex: true, Sort: "O", Syms: []api.Sym{lit("o")}},
			{Lex: true, Sort: "O", Syms: []api.Sym{lit("p")}}, {Sort: "P", Cons: "Q", Syms: []api.Sym{lit("q")}},
		},
		Chains:  [][]api.Group{{{Cons: []string{"F"}}}, {{Cons: []string{"N"}}}},
		Follows: []api.Follow{{Sort: "E", Set: charset.Of('e')}, {Sort: "M", Set: charset.Of('m')}},
		Rejects: []api.Reject{{Sort: "C", By: "D"}, {Sort: "K", By: "L"}},
		Boxes:   []api.Box{{Cons: "B"}, {Cons: "J"}},
	}
	if !reflect.DeepEqual(d, want) {
		t.Errorf("Parse = %+v", d)
	}
}

// Each text has its fault at the word behind the `@`, which is left out of it.
func TestParseWrongWords(t *testing.T) {
	for _, text := range []string{
		"@;", "@=", "@A", "@left A;", "@bracket", "@Start A;", `@"start" A;`, "@starts A;", "@7", "@[a]", "start A;@;",
		"start @", "start @;", "start @a;", `start @"A";`, "start @7;", "start @[A];", "start A @B;", "start A@", "start A@.B;",
		"layout @;", "layout A @=", "layout @layout;",
		"lex @", "lex @=", "lex A @", "lex A @;", `lex A @"a";`, "lex A.@", "lex A.@=", "lex A.B@.C", "lex A.B @C", "lex A = @", "lex A = @;",
		"lex A = @|", `lex A = "a" | @;`, `lex A = "a" | @| "b";`, `lex A = "a"@?`, `lex A = "a"@*`, `lex A = "a"@+`, "lex A = @?", "lex A = B?@?",
		"lex A = B*@+", "lex A = [a]+@*", `lex A = "a" @bracket;`, `lex A = "a" @= "b";`, "lex A = @7", "lex A = B @7", "lex A = @(", "lex A = B @)",
		"lex A = B @_", "lex A = B @, C", "lex A = B @- C", "lex A = @left", `lex A = "a" @`,
		"lex A = {@", "lex A = {@}", `lex A = {@"a"}`, "lex A = {@[a]", "lex A = {B@", "lex A = {B@}*", "lex A = {B @C}*", "lex A = {B @[a]}*",
		`lex A = {B @""}*;`, `lex A = {B "a"@`, `lex A = {B "a" @"b"}*`, `lex A = {B "a"}@`, `lex A = {B "a"}@?`, `lex A = {B "a"}@;`,
		`lex A = {B "a"}@C`, `lex A = {B "a"}*@*`, "lex A = {B@* \"a\"}*", "lex A = @}",
		"cf @", "cf E @", `cf E @"a"`, "cf E.@", "cf E.@;", "cf E = @", "cf E = @;", "cf E = @bracket;", "cf E = E@;", "cf E = E @| E", "cf E = E @",
		"cf E = E bracket@", "cf E = E bracket @E", "cf E.A = E @bracket;", "cf E.A = E @| E;", "cf E.A = E @", "cf E.A @E", "cf E.A@.B",
		"prio @", "prio @;", "prio @>", "prio left@", "prio left @;", "prio left @left A;", "prio left @> A", "prio A @left B;", "prio A > @;", "prio A > @> B;",
		"prio A@", "prio A @, B", `prio @"A";`, "prio @bracket A;", "prio A > non @;", "prio A > B @right C;", "prio A > B@|",
		"follow @", "follow @[a];", "follow A @", "follow A @;", "follow A @B;", `follow A @"a";`, "follow A [a]@", "follow A [a] @[b];", "follow A [a]@+;",
		"reject @", "reject @;", "reject A @", "reject A @;", "reject A B@", "reject A B @C;", "reject A @[a];",
		"box @", "box @=", "box A @", "box A @;", "box A @1", "box A = @", "box A = @B;", "box A = @=", "box A = @(", "box A = @)", "box A = 1 @)",
		"box A = nest @", "box A = nest @(", "box A = nest 1 @", "box A = nest 1 @;", "box A = nest 1 @2", "box A = nest 1 (@", "box A = nest 1 (@;",
		"box A = group @", "box A = group @1 ( )", "box A = group (@;", "box A = group ( ) @)", "box A = group ( group ( ) @;", "box A = nest @_ ( )",
		"box A = 1 @[a];", "box A = @left;", "box A = @- 1;", "box A = @{", "box A = 1@",
		"start A; lex @;", "lex A = \"a\"; lex B = \"b\" @lex",
	} {
		faulty(t, strings.Replace(text, "@", "", 1), strings.IndexByte(text, '@'), api.ErrWord)
	}
}

func TestParseTwice(t *testing.T) {
	faulty(t, "start A; layout B; start C;", 19, api.ErrTwice)
	faulty(t, "layout A; start B; layout A;", 19, api.ErrTwice)
	faulty(t, "layout A; layout", 10, api.ErrTwice)
	faulty(t, "start A; start ;", 9, api.ErrTwice)
	faulty(t, "start A; ; start A;", 9, api.ErrWord)
	faulty(t, "start start A;", 6, api.ErrWord)
	faulty(t, "start A start", 8, api.ErrWord)
}

func TestParseTellsScansFault(t *testing.T) {
	for _, text := range []string{"lex A = ; %", "; [", "start A; start B; 07", `; "\q"`, "; " + repeat(33, "A"), repeat(api.MaxText+1, " ")} {
		_, want := words.Scan(text)
		if want.Code == api.OK {
			t.Fatalf("%.20q has no fault", text)
		}
		faulty(t, text, want.At, want.Code)
	}
	if d := must(t, "start A;"+repeat(api.MaxText-8, " ")); d.Start != "A" {
		t.Errorf("Parse = %v", d)
	}
	faulty(t, "start A;"+repeat(api.MaxText-7, " "), 0, api.ErrLong)
}

func TestParseLongTexts(t *testing.T) {
	most := repeat(api.MaxLit, `\x41`)
	for _, c := range [][2]string{{`lex A = "b" `, `;`}, {`cf A.B = `, `;`}, {`cf A.B = B {C `, `}*;`}, {`box A = nest 1 ( `, ` );`}, {`box A = _ `, `;`}} {
		must(t, c[0]+`"`+most+`"`+c[1])
		faulty(t, c[0]+`"`+most+`A"`+c[1], len(c[0]), api.ErrLong)
		faulty(t, c[0]+`"`+most+`A"`, len(c[0]), api.ErrLong)
	}
	faulty(t, `lex A = B "`+most+`A" ;;`, 10, api.ErrLong)
	faulty(t, `start "`+most+`A";`, 6, api.ErrWord)
}

func TestParseManySyms(t *testing.T) {
	for _, one := range []string{`"a" `, "A ", "[a] ", `{A "a"}* `, "A? "} {
		head := "lex A = " + repeat(api.MaxSyms, one)
		if d := must(t, head+";"); len(d.Prods[0].Syms) != api.MaxSyms {
			t.Errorf("%q has %d symbols", head, len(d.Prods[0].Syms))
		}
		must(t, head+" | "+repeat(api.MaxSyms, one)+";")
		for _, more := range []string{`""`, "B", "[]", "{", "{;"} {
			faulty(t, head+more, len(head), api.ErrLong)
		}
		for _, more := range []string{"1", "}", "", "bracket", "|;"} {
			at := len(head)
			if more == "|;" {
				at++
			}
			faulty(t, head+more, at, api.ErrWord)
		}
	}
	cf := `cf E = ` + repeat(api.MaxSyms, `"(" `)
	must(t, cf+"bracket;")
	faulty(t, cf+"E bracket;", len(cf), api.ErrLong)
}

func TestParseManyProds(t *testing.T) {
	cf := repeat(api.MaxProds-1, `cf E.A = "a";`)
	for _, last := range []string{`lex A = "a";`, `cf E.B = "b";`, `cf E = "b" bracket;`} {
		text := cf + last
		if d := must(t, text); len(d.Prods) != api.MaxProds {
			t.Errorf("%d productions", len(d.Prods))
		}
		must(t, text+"start A; layout B; box A =; prio A; follow A [a]; reject A B;")
		for _, more := range []string{`lex A = "a";`, `cf E.B = "b";`, `lex`, `cf ;`} {
			faulty(t, text+more, len(text), api.ErrLong)
		}
		faulty(t, text+"; lex", len(text), api.ErrWord)
		faulty(t, text+"start E; start F; lex", len(text)+9, api.ErrTwice)
	}
	lex := "lex A = A" + repeat(api.MaxProds-1, "|B")
	must(t, lex+";")
	faulty(t, lex+"|B;", len(lex), api.ErrLong)
	faulty(t, lex+"|;", len(lex), api.ErrLong)
	faulty(t, lex+"B;|", len(lex)+2, api.ErrWord)
	faulty(t, cf+`lex A = "a" | "b";`, len(cf)+12, api.ErrLong)
}

func TestParseManyGroups(t *testing.T) {
	for _, one := range []string{"A", "left A", "non A B"} {
		chain := "prio " + one + repeat(api.MaxGroups-1, " > "+one)
		if d := must(t, chain+";"); len(d.Chains[0]) != api.MaxGroups {
			t.Errorf("%d groups", len(d.Chains[0]))
		}
		must(t, repeat(20, chain+";"))
		for _, more := range []string{"A", "left A", "right", "non ;", "left left"} {
			faulty(t, chain+" > "+more, len(chain)+3, api.ErrLong)
		}
		for _, more := range []string{"", ";", ">", `"A"`, "bracket"} {
			faulty(t, chain+" > "+more, len(chain)+3, api.ErrWord)
		}
		group := "prio A > " + one + repeat(api.MaxGroups-strings.Count(one, "A")-strings.Count(one, "B"), " C")
		if d := must(t, group+";"); len(d.Chains[0][1].Cons) != api.MaxGroups {
			t.Errorf("%d constructors", len(d.Chains[0][1].Cons))
		}
		must(t, group+" > "+one+";")
		faulty(t, group+" C;", len(group)+1, api.ErrLong)
		faulty(t, group+" c;", len(group)+1, api.ErrWord)
	}
}

func TestParseManyItems(t *testing.T) {
	within := "box A = nest 1 ( group ( " + repeat(api.MaxItems-3, "_ ") + ") )"
	last := repeat(api.MaxItems-1, "/ ")
	for _, head := range []string{"box A = " + repeat(api.MaxItems, "1 "), within + `"a" `, "box A = " + last + "group ( ) ", "box A = " + last + "nest 1 ( ) "} {
		must(t, head+";")
		must(t, head+";"+head+";")
		for _, more := range []string{"_", "/", "1", `"a"`, `"` + repeat(33, "a") + `"`, "nest", "group"} {
			faulty(t, head+more, len(head), api.ErrLong)
		}
		for _, more := range []string{"A", "", "[a]", "left"} {
			faulty(t, head+more, len(head), api.ErrWord)
		}
	}
	inner := "box A = " + last + "group ( "
	for _, more := range []string{"_", "/", "1", `"a"`, "nest", "group"} {
		faulty(t, inner+more, len(inner), api.ErrLong)
	}
	deep := "box A = " + repeat(api.MaxItems, "group ( ")
	must(t, deep+repeat(api.MaxItems, ")")+";")
	faulty(t, deep+"group (", len(deep), api.ErrLong)
}

func TestParseFirstFaultTells(t *testing.T) {
	long := `"` + repeat(33, "a") + `"`
	faulty(t, `lex A = {B "" ; `+long, 11, api.ErrWord)
	faulty(t, "lex A = "+long+" start A; start", 8, api.ErrLong)
	faulty(t, "start A; lex B = B; start A; lex C = "+long, 20, api.ErrTwice)
	faulty(t, "start A; lex B = ; start A; lex C = "+long, 17, api.ErrWord)
}

func TestParseBlanksAndRemarks(t *testing.T) {
	for _, c := range statements {
		list, f := words.Scan(c.text)
		if f.Code != api.OK {
			t.Fatal(f)
		}
		for _, between := range []string{" ", "\n", "\t\r ", "# x ; start\n", "#\n #\n "} {
			text := between
			for _, w := range list {
				text += w.Text + between
			}
			if d := must(t, text); !Same(d, c.want) {
				t.Errorf("Parse(%q) = %+v", text, d)
			}
		}
	}
}

func TestParseBothTexts(t *testing.T) {
	for _, a := range statements {
		for _, b := range statements {
			if b.want.Start+b.want.Layout != "" {
				continue
			}
			want := api.Def{
				Start: a.want.Start, Layout: a.want.Layout,
				Prods:   append(append([]api.Prod{}, a.want.Prods...), b.want.Prods...),
				Chains:  append(append([][]api.Group{}, a.want.Chains...), b.want.Chains...),
				Follows: append(append([]api.Follow{}, a.want.Follows...), b.want.Follows...),
				Rejects: append(append([]api.Reject{}, a.want.Rejects...), b.want.Rejects...),
				Boxes:   append(append([]api.Box{}, a.want.Boxes...), b.want.Boxes...),
			}
			if d := must(t, a.text+"\n"+b.text); !Same(d, want) {
				t.Errorf("Parse(%q) = %+v", a.text+"\n"+b.text, d)
			}
		}
	}
}

// shared is the places of memory that a value's lists have, each with how often it is met.
func shared(v reflect.Value, met map[uintptr]int) {
	switch v.Kind() {
	case reflect.Slice:
		if v.Cap() > 0 {
			met[v.Pointer()]++
		}
		for i := 0; i < v.Len(); i++ {
			shared(v.Index(i), met)
		}
	case reflect.Struct:
		for i := 0; i < v.NumField(); i++ {
			shared(v.Field(i), met)
		}
	}
}

func TestParseAnswersNewMemory(t *testing.T) {
	var text strings.Builder
	for _, c := range statements {
		text.WriteString(c.text + "\n")
	}
	a, b := must(t, text.String()), must(t, text.String())
	met := map[uintptr]int{}
	shared(reflect.ValueOf(a), met)
	shared(reflect.ValueOf(b), met)
	for at, n := range met {
		if n > 1 {
			t.Errorf("a list at %x is met %d times", at, n)
		}
	}
	c := must(t, text.String())
	for i := range a.Prods {
		_ = append(a.Prods[i].Syms, lit("more"))
		a.Prods[i].Syms[0] = lit("other")
	}
	if !Same(b, c) {
		t.Error("an answer changed")
	}
}

func TestParseAnswersAreRight(t *testing.T) {
	for _, c := range statements {
		if !Right(must(t, c.text)) {
			t.Errorf("%q says what is not right", c.text)
		}
	}
}

func TestParseManyStatements(t *testing.T) {
	const n = 3000
	d := must(t, repeat(n, "prio A;box B=;")+repeat(n/10, "follow C [c];reject D E;"))
	for i, have := range []int{len(d.Chains), len(d.Boxes), 10 * len(d.Follows), 10 * len(d.Rejects)} {
		if have != n {
			t.Errorf("list "+strconv.Itoa(i)+" has %d", have)
		}
	}
}
