package terms

import (
	"slices"
	"strings"
	"testing"

	"tracery/api"
	"tracery/words"
)

// P11.3 and P11.4: terms and their texts, the chapter's examples first.
func TestTexts(t *testing.T) {
	most := "A" + strings.Repeat("z", api.MaxName-1)
	for _, c := range []struct {
		term api.Term
		text string
	}{
		{app("Add", app("Num", lex("1")), app("Seq", list())), `Add(Num("1"),Seq([]))`},
		{app("Opt", some(app("A"))), `Opt(?A)`}, {app("Opt", none()), `Opt(-)`},
		{app("A"), `A`}, {app("A", app("B")), `A(B)`}, {app("A", app("B"), app("C"), app("D")), `A(B,C,D)`}, {app("A", app("B", app("C"), app("D")), app("E")), `A(B(C,D),E)`}, {app("A0zZ9"), `A0zZ9`}, {app(most, app(most)), most + `(` + most + `)`},
		{lex(""), `""`}, {lex("a b"), `"a b"`}, {lex("\"\\\n\t\r"), `"\"\\\n\t\r"`}, {lex("\x00\x1f\x7f\xff ~!"), `"\x00\x1f\x7f\xff ~!"`}, {lex("(),[]-?A#"), `"(),[]-?A#"`},
		{list(), `[]`}, {list(list()), `[[]]`}, {list(none(), some(none()), lex("a"), app("B"), list(none())), `[-,?-,"a",B,[-]]`},
		{none(), `-`}, {some(none()), `?-`}, {some(some(some(list()))), `???[]`}, {some(app("A", some(lex("a")))), `?A(?"a")`},
	} {
		text, code := Print(c.term)
		if text != c.text || code != api.OK {
			t.Errorf("%s: %q %d, not %q", all(c.term), text, code, c.text)
		}
		if term, fault := Parse(c.text); !Same(term, c.term) || fault != (api.Fault{}) {
			t.Errorf("%q: %s %v", c.text, all(term), fault)
		}
	}
	for b := range 256 {
		text, code := Print(lex(string([]byte{byte(b)})))
		if term, fault := Parse(text); code != api.OK || text != words.Quote([]byte{byte(b)}) || fault != (api.Fault{}) || !Same(term, lex(string([]byte{byte(b)}))) {
			t.Errorf("byte %d: %q %d, %s %v", b, text, code, all(term), fault)
		}
	}
	// what may be written otherwise in quotes
	if term, fault := Parse(`"\x41\x4a\x4A\x0a\x22"`); fault != (api.Fault{}) || !Same(term, lex("AJJ\n\"")) {
		t.Errorf("%s %v", all(term), fault)
	}
}

// P11.3: terms that are not right have no text.
func TestNoTexts(t *testing.T) {
	for _, not := range wrong() {
		for _, term := range []api.Term{not, app("A", not), list(none(), not), some(not), tower(api.MaxNest, not)} {
			if text, code := Print(term); text != "" || code != api.ErrTerm {
				t.Errorf("%s: %q %d", all(term), text, code)
			}
		}
	}
}

// fill is blanks and a term's text, together of so many bytes.
func fill(n int, text string) string { return strings.Repeat(" ", n-len(text)) + text }

// P11.3: how long a text may be.
func TestMaxText(t *testing.T) {
	const most = api.MaxText
	wide := func(cons string, n int) api.Term { return app(cons, slices.Repeat([]api.Term{none()}, n)...) }
	for _, c := range []struct{ fits, not api.Term }{
		{lex(strings.Repeat("a", most-2)), lex(strings.Repeat("a", most-1))},
		{lex(strings.Repeat("\n", most/2-1)), lex(strings.Repeat("\n", most/2-1) + "a")},
		{lex(strings.Repeat("\x00", most/4-1) + "aa"), lex(strings.Repeat("\x00", most/4-1) + "aaa")},
		{wide("A", most/2-1), wide("Ab", most/2-1)}, // A, a bracket or a comma with each, and a bracket
		{app("A", lex(strings.Repeat("a", most-5))), app("A", lex(strings.Repeat("a", most-4)))},
		{app("A", lex(strings.Repeat("a", most-5))), app("Ab", lex(strings.Repeat("a", most-5)))},
		{list(lex(strings.Repeat("a", most-4))), list(lex(strings.Repeat("a", most-3)))},
		{some(lex(strings.Repeat("a", most-3))), some(lex(strings.Repeat("a", most-2)))},
		{app("A", lex(strings.Repeat("a", most-8)), app("Bc")), app("A", lex(strings.Repeat("a", most-8)), app("Bcd"))},
		{list(lex(strings.Repeat("a", most-6)), none()), list(lex(strings.Repeat("a", most-6)), none(), none())},
		{list(lex(strings.Repeat("a", most-7)), list()), list(lex(strings.Repeat("a", most-6)), list())},
		{list(lex(strings.Repeat("a", most-6)), none()), list(some(none()), lex(strings.Repeat("a", most-6)))},
	} {
		text, code := Print(c.fits)
		if code != api.OK || len(text) != most {
			t.Errorf("%.40q: %d bytes, %d", text, len(text), code)
			continue
		}
		if term, fault := Parse(text); fault != (api.Fault{}) || !Same(term, c.fits) {
			t.Errorf("%.40q: %v", text, fault)
		}
		if text, code := Print(c.not); text != "" || code != api.ErrLong {
			t.Errorf("%.40q: %d bytes, %d", text, len(text), code)
		}
		// that it is not right is told ahead of its length
		if text, code := Print(list(c.not, c.not, some())); text != "" || code != api.ErrTerm {
			t.Errorf("%d bytes, %d", len(text), code)
		}
	}
	for _, term := range []api.Term{lex(strings.Repeat("a", 5*most)), wide("A", 5*most), list(lex(strings.Repeat("a", most)), none())} {
		if text, code := Print(term); text != "" || code != api.ErrLong {
			t.Errorf("%d bytes, %d", len(text), code)
		}
	}
	for text, want := range map[string]api.Fault{
		fill(most, "A"): {}, fill(most, "A") + " ": {Code: api.ErrLong}, strings.Repeat("?", most+1): {Code: api.ErrLong}, strings.Repeat(" ", most+1): {Code: api.ErrLong}, `"` + strings.Repeat("a", most): {Code: api.ErrLong}, fill(most+1, "A"): {Code: api.ErrLong},
		strings.Repeat(" ", most): {At: most, Code: api.ErrShort}, fill(most, "A("): {At: most, Code: api.ErrShort}, fill(most, "A)"): {At: most - 1, Code: api.ErrRest}, `"` + strings.Repeat("a", most-1): {Code: api.ErrOpen}, fill(most, "A b"): {At: most - 1, Code: api.ErrRest},
	} {
		if term, fault := Parse(text); fault != want || fault != (api.Fault{}) && !Same(term, api.Term{}) {
			t.Errorf("%d bytes %.20q: %v, not %v", len(text), text, fault, want)
		}
	}
}

// P11.3: how deep a term may be; what else is wrong at the same place is named ahead of it.
func TestMaxNest(t *testing.T) {
	const most = api.MaxNest
	for _, bottom := range []api.Term{app("A"), lex("a"), list(), none(), app("A", none(), none())} {
		_, deep := Size(bottom)
		deepest := tower(most-deep+1, bottom)
		text, code := Print(deepest)
		if term, fault := Parse(text); code != api.OK || fault != (api.Fault{}) || !Same(term, deepest) {
			t.Errorf("%s: %d %v", all(bottom), code, fault)
		}
		for _, deeper := range []api.Term{some(deepest), app("A", deepest), list(none(), deepest), tower(most, some(bottom))} {
			if text, code := Print(deeper); text != "" || code != api.ErrTerm {
				t.Errorf("%s: %q %d", all(bottom), text, code)
			}
		}
	}
	long := "A" + strings.Repeat("a", api.MaxName)
	for _, in := range []string{strings.Repeat("?", most), strings.Repeat("[", most), strings.Repeat("A(", most), strings.Repeat(" [ A ( ?", most/3) + strings.Repeat(" ? ", most%3)} {
		at := len(in)
		for rest, want := range map[string]api.Fault{
			"A": {At: at, Code: api.ErrLong}, `"a"`: {At: at, Code: api.ErrLong}, "[": {At: at, Code: api.ErrLong}, "-": {At: at, Code: api.ErrLong}, "?": {At: at, Code: api.ErrLong}, "A(": {At: at, Code: api.ErrLong}, "  A": {At: at + 2, Code: api.ErrLong}, "A?": {At: at, Code: api.ErrLong}, "[)": {At: at, Code: api.ErrLong}, "?)": {At: at, Code: api.ErrLong},
			long[1:]: {At: at, Code: api.ErrByte}, long: {At: at, Code: api.ErrName}, long + "(": {At: at, Code: api.ErrName}, "A" + strings.Repeat("a", api.MaxName-1): {At: at, Code: api.ErrLong},
			`"`: {At: at, Code: api.ErrOpen}, `"a`: {At: at, Code: api.ErrOpen}, `"\q"`: {At: at, Code: api.ErrLong}, `"\q`: {At: at, Code: api.ErrLong}, "\"\n\"": {At: at, Code: api.ErrLong}, `""`: {At: at, Code: api.ErrLong},
			"": {At: at, Code: api.ErrShort}, " ": {At: at + 1, Code: api.ErrShort}, ")": {At: at, Code: api.ErrByte}, ",": {At: at, Code: api.ErrByte}, "a": {At: at, Code: api.ErrByte}, "\x00": {At: at, Code: api.ErrByte},
		} {
			if term, fault := Parse(in + rest); fault != want || !Same(term, api.Term{}) {
				t.Errorf("%.9q.., then %q: %v, not %v", in, rest, fault, want)
			}
		}
	}
	// an empty list has no kid that could lie too deep
	if term, fault := Parse(strings.Repeat("[", most) + strings.Repeat("]", most)); fault != (api.Fault{}) || !Right(term) {
		t.Error(fault)
	}
	if _, fault := Parse(strings.Repeat("[", most) + "A" + strings.Repeat("]", most)); fault != (api.Fault{At: most, Code: api.ErrLong}) {
		t.Error(fault)
	}
	if _, fault := Parse("A(" + strings.Repeat("?", most-2) + "-,-," + strings.Repeat("?", most-1) + "-)"); fault != (api.Fault{At: 2*most + 3, Code: api.ErrLong}) {
		t.Error(fault)
	}
}

// P11.3: each fault at its place, and which comes first.
func TestFaults(t *testing.T) {
	most := "A" + strings.Repeat("a", api.MaxName-1)
	for text, want := range map[string]api.Fault{
		// the end ahead of the term's end
		"": {At: 0, Code: api.ErrShort}, " ": {At: 1, Code: api.ErrShort}, " \t\r\n": {At: 4, Code: api.ErrShort}, "A(": {At: 2, Code: api.ErrShort}, "A( ": {At: 3, Code: api.ErrShort}, "A(B": {At: 3, Code: api.ErrShort}, "A(B ": {At: 4, Code: api.ErrShort}, "A(B,": {At: 4, Code: api.ErrShort}, "A(B,C": {At: 5, Code: api.ErrShort}, "A(B(C)": {At: 6, Code: api.ErrShort}, "A(\"a\"": {At: 5, Code: api.ErrShort},
		"[": {At: 1, Code: api.ErrShort}, "[ ": {At: 2, Code: api.ErrShort}, "[A": {At: 2, Code: api.ErrShort}, "[A,": {At: 3, Code: api.ErrShort}, "[[]": {At: 3, Code: api.ErrShort}, "[-": {At: 2, Code: api.ErrShort}, "?": {At: 1, Code: api.ErrShort}, "? ": {At: 2, Code: api.ErrShort}, "???": {At: 3, Code: api.ErrShort}, "A(?": {At: 3, Code: api.ErrShort},
		// a byte that can not stand there: where a term is to begin
		")": {At: 0, Code: api.ErrByte}, "]": {At: 0, Code: api.ErrByte}, ",": {At: 0, Code: api.ErrByte}, "(": {At: 0, Code: api.ErrByte}, "(A)": {At: 0, Code: api.ErrByte}, "a": {At: 0, Code: api.ErrByte}, "aB": {At: 0, Code: api.ErrByte}, "1": {At: 0, Code: api.ErrByte}, "1A": {At: 0, Code: api.ErrByte}, "_": {At: 0, Code: api.ErrByte}, "#": {At: 0, Code: api.ErrByte}, "'": {At: 0, Code: api.ErrByte}, "\\": {At: 0, Code: api.ErrByte}, "\x00": {At: 0, Code: api.ErrByte}, "\v": {At: 0, Code: api.ErrByte}, "\f": {At: 0, Code: api.ErrByte}, "\xc3\x84": {At: 0, Code: api.ErrByte}, "\x85": {At: 0, Code: api.ErrByte}, "\xa0": {At: 0, Code: api.ErrByte}, "@": {At: 0, Code: api.ErrByte}, "`": {At: 0, Code: api.ErrByte}, "{": {At: 0, Code: api.ErrByte}, "  x": {At: 2, Code: api.ErrByte}, "# A": {At: 0, Code: api.ErrByte},
		"A()": {At: 2, Code: api.ErrByte}, "A( )": {At: 3, Code: api.ErrByte}, "A(,": {At: 2, Code: api.ErrByte}, "A(]": {At: 2, Code: api.ErrByte}, "A((": {At: 2, Code: api.ErrByte}, "A(B,)": {At: 4, Code: api.ErrByte}, "A(B,,": {At: 4, Code: api.ErrByte}, "A(B(),C)": {At: 4, Code: api.ErrByte}, "A(b)": {At: 2, Code: api.ErrByte},
		"[,": {At: 1, Code: api.ErrByte}, "[)": {At: 1, Code: api.ErrByte}, "[A,]": {At: 3, Code: api.ErrByte}, "[A,,": {At: 3, Code: api.ErrByte}, "[a]": {At: 1, Code: api.ErrByte}, "?)": {At: 1, Code: api.ErrByte}, "?]": {At: 1, Code: api.ErrByte}, "?a": {At: 1, Code: api.ErrByte}, "[?]": {At: 2, Code: api.ErrByte}, "A(?)": {At: 3, Code: api.ErrByte},
		// behind a kid
		"A(B]": {At: 3, Code: api.ErrByte}, "A(B C)": {At: 4, Code: api.ErrByte}, "A(B;": {At: 3, Code: api.ErrByte}, "A(B_": {At: 3, Code: api.ErrByte}, "A(B\"a\")": {At: 3, Code: api.ErrByte}, "A(\"a\"B)": {At: 5, Code: api.ErrByte}, "A(-B)": {At: 3, Code: api.ErrByte}, "A(--)": {At: 3, Code: api.ErrByte}, "A(-?": {At: 3, Code: api.ErrByte}, "A([](": {At: 4, Code: api.ErrByte}, "A(\"\"(": {At: 4, Code: api.ErrByte}, "A(B)(": {At: 4, Code: api.ErrRest}, "A(B(C)(": {At: 6, Code: api.ErrByte},
		"[A)": {At: 2, Code: api.ErrByte}, "[A B": {At: 3, Code: api.ErrByte}, "[A[": {At: 2, Code: api.ErrByte}, "[-(": {At: 2, Code: api.ErrByte}, "[?A)": {At: 3, Code: api.ErrByte}, "[A;]": {At: 2, Code: api.ErrByte}, "[A\x00": {At: 2, Code: api.ErrByte}, "[A\xe4]": {At: 2, Code: api.ErrByte}, "[A\v]": {At: 2, Code: api.ErrByte}, "[A#": {At: 2, Code: api.ErrByte},
		// names
		most + "a": {At: 0, Code: api.ErrName}, "  " + most + "9(": {At: 2, Code: api.ErrName}, "[" + most + "Z": {At: 1, Code: api.ErrName}, "A(" + most + "," + most + "0)": {At: 3 + len(most), Code: api.ErrName}, most + most + most: {At: 0, Code: api.ErrName}, most + "a?": {At: 0, Code: api.ErrName}, most + "?": {At: len(most), Code: api.ErrRest}, most + " a": {At: len(most) + 1, Code: api.ErrRest}, "A(b" + most: {At: 2, Code: api.ErrByte}, most + "\xe4": {At: len(most), Code: api.ErrRest},
		// texts in quotes
		`"`: {At: 0, Code: api.ErrOpen}, `"a`: {At: 0, Code: api.ErrOpen}, `  "a)`: {At: 2, Code: api.ErrOpen}, `A("a,B)`: {At: 2, Code: api.ErrOpen}, `A("a","b)`: {At: 6, Code: api.ErrOpen}, `"a\"`: {At: 0, Code: api.ErrOpen}, `"a\\\"`: {At: 0, Code: api.ErrOpen}, `["a" , "`: {At: 7, Code: api.ErrOpen},
		`"\q"`: {At: 1, Code: api.ErrEscape}, `"a\`: {At: 2, Code: api.ErrEscape}, `"a\x`: {At: 2, Code: api.ErrEscape}, `"a\x4`: {At: 2, Code: api.ErrEscape}, `"\x4"`: {At: 1, Code: api.ErrEscape}, `"\xg0"`: {At: 1, Code: api.ErrEscape}, `"\s"`: {At: 1, Code: api.ErrEscape}, `A(B, "ab\-")`: {At: 8, Code: api.ErrEscape}, `"\\\'"`: {At: 3, Code: api.ErrEscape}, `"\N"`: {At: 1, Code: api.ErrEscape}, `"\X41"`: {At: 1, Code: api.ErrEscape},
		"\"a\n\"": {At: 2, Code: api.ErrByte}, "\"\t\"": {At: 1, Code: api.ErrByte}, "\"\r\"": {At: 1, Code: api.ErrByte}, "\"\x00": {At: 1, Code: api.ErrByte}, "\"ab\x7f\"": {At: 3, Code: api.ErrByte}, "\"\x80": {At: 1, Code: api.ErrByte}, "A( \"\xff\")": {At: 4, Code: api.ErrByte}, "\"a\nb\\q": {At: 2, Code: api.ErrByte}, "\"a\\q\n": {At: 2, Code: api.ErrEscape},
		// a rest, and blanks behind the term
		"A B": {At: 2, Code: api.ErrRest}, "A)": {At: 1, Code: api.ErrRest}, "A,": {At: 1, Code: api.ErrRest}, "A]": {At: 1, Code: api.ErrRest}, "A_": {At: 1, Code: api.ErrRest}, "A\"": {At: 1, Code: api.ErrRest}, "A[": {At: 1, Code: api.ErrRest}, "A-": {At: 1, Code: api.ErrRest}, "A \t\n\r#": {At: 5, Code: api.ErrRest}, "A(B))": {At: 4, Code: api.ErrRest}, "A(B) (": {At: 5, Code: api.ErrRest}, "[]]": {At: 2, Code: api.ErrRest}, "[] []": {At: 3, Code: api.ErrRest}, "[](": {At: 2, Code: api.ErrRest}, "--": {At: 1, Code: api.ErrRest}, "-A": {At: 1, Code: api.ErrRest}, "-(": {At: 1, Code: api.ErrRest}, "?A B": {At: 3, Code: api.ErrRest}, "?-?": {At: 2, Code: api.ErrRest}, `"a""b"`: {At: 3, Code: api.ErrRest}, `"a" "`: {At: 4, Code: api.ErrRest}, `"a"(`: {At: 3, Code: api.ErrRest}, "A\v": {At: 1, Code: api.ErrRest}, "A\x00": {At: 1, Code: api.ErrRest}, "A \\": {At: 2, Code: api.ErrRest}, `"a"\`: {At: 3, Code: api.ErrRest},
		// the first one from the left
		`A("\q",b`: {At: 3, Code: api.ErrEscape}, `A(b,"\q"`: {At: 2, Code: api.ErrByte}, `A(` + most + `a,b`: {At: 2, Code: api.ErrName}, `A(b,` + most + `a`: {At: 2, Code: api.ErrByte}, `[A) "`: {At: 2, Code: api.ErrByte}, `A("a) ,b`: {At: 2, Code: api.ErrOpen}, `A B(`: {At: 2, Code: api.ErrRest}, `A ` + most + `a`: {At: 2, Code: api.ErrRest},
		// blanks within names
		"Ad d": {At: 3, Code: api.ErrRest}, "A(Ad\td)": {At: 5, Code: api.ErrByte}, "A\nB(C)": {At: 2, Code: api.ErrRest}, "A 1": {At: 2, Code: api.ErrRest},
	} {
		if term, fault := Parse(text); fault != want || !Same(term, api.Term{}) {
			t.Errorf("%q: %s %v, not %v", text, all(term), fault, want)
		}
	}
}

// P11.5: blanks of each kind ahead of and behind each word and sign.
func TestBlanks(t *testing.T) {
	signs := []string{"Add", "(", "?", "Num", "(", `"1 2"`, ")", ",", "Seq", "(", "[", "]", ",", "[", "-", ",", "?", "?", "B", ",", `""`, "]", ")", ",", "C", ")"}
	want, fault := Parse(strings.Join(signs, ""))
	if fault != (api.Fault{}) || all(want) != all(app("Add", some(app("Num", lex("1 2"))), app("Seq", list(), list(none(), some(some(app("B"))), lex(""))), app("C"))) {
		t.Fatalf("%s %v", all(want), fault)
	}
	for _, blank := range []string{" ", "\t", "\n", "\r", " \t\n\r", "\r\n\r\n"} {
		if term, fault := Parse(blank + strings.Join(signs, blank) + blank); fault != (api.Fault{}) || !Same(term, want) {
			t.Errorf("%q: %s %v", blank, all(term), fault)
		}
		for i := range len(signs) + 1 {
			text := strings.Join(signs[:i], "") + blank + strings.Join(signs[i:], "")
			if term, fault := Parse(text); fault != (api.Fault{}) || !Same(term, want) {
				t.Errorf("%q: %s %v", text, all(term), fault)
			}
		}
	}
	// in quotes a blank is no blank
	if term, fault := Parse(`A( " a  b " )`); fault != (api.Fault{}) || !Same(term, app("A", lex(" a  b "))) {
		t.Errorf("%s %v", all(term), fault)
	}
}

func FuzzParse(f *testing.F) {
	for _, text := range []string{"", `Add(Num("1"),Seq([]))`, "Opt( ?A )", "-", "A()", "[A,]", `"\x4A`, "?? ?-", "A B"} {
		f.Add(text)
	}
	f.Fuzz(func(t *testing.T, text string) {
		term, fault := Parse(text)
		if want := slowFault(text); fault != want {
			t.Fatalf("%q: %v, not %v", text, fault, want)
		}
		if fault != (api.Fault{}) {
			if fault.At < 0 || fault.At > len(text) || !Same(term, api.Term{}) {
				t.Fatalf("%q: %v", text, fault)
			}
			return
		}
		again, code := Print(term)
		if back, fault := Parse(again); !Right(term) || code != api.OK || len(again) > len(text) || fault != (api.Fault{}) || !Same(back, term) {
			t.Fatalf("%q: %q %d", text, again, code)
		}
	})
}
