package words

import (
	"reflect"
	"regexp"
	"strconv"
	"strings"
	"testing"

	"tracery/api"
	"tracery/charset"
)

// told is a list of words in which a list without elements is nil.
func told(l []api.Word) []api.Word {
	var out []api.Word
	for _, w := range l {
		if len(w.Bytes) == 0 {
			w.Bytes = nil
		}
		out = append(out, w)
	}
	return out
}

// unplaced is a list of words without their places, and without the end.
func unplaced(l []api.Word) []api.Word {
	var out []api.Word
	for _, w := range told(l) {
		if w.Kind != api.WEnd {
			w.At, w.Line, w.Col = 0, 0, 0
			out = append(out, w)
		}
	}
	return out
}

// wanted reads a text by patterns: another way to say what chapter 2 says.
type wanted struct {
	blanks, letters, digits, signs, quoted, set *regexp.Regexp
}

func newWanted() wanted {
	return wanted{
		blanks:  regexp.MustCompile(`^(?:[ \t\n\r]|#[^\n]*)*`),
		letters: regexp.MustCompile(`^[A-Za-z][A-Za-z0-9]*`),
		digits:  regexp.MustCompile(`^[0-9]+`),
		signs:   regexp.MustCompile(`^[=|.;>?*+{}()_/,\-]`),
		quoted:  regexp.MustCompile(`^"(?:[ !#-\[\]-~]|\\[ntr"\\]|\\x[0-9a-fA-F]{2})*`),
		set:     regexp.MustCompile(`(?s)^\[(?:[^\]\\]|\\.)*\]`),
	}
}

func (p wanted) scan(text string) ([]api.Word, api.Fault) {
	var list []api.Word
	at := 0
	for {
		at += len(p.blanks.FindString(text[at:]))
		w, f := p.word(text[at:])
		if f.Code != api.OK {
			return nil, api.Fault{At: at + f.At, Code: f.Code}
		}
		lines := strings.Split(text[:at], "\n")
		w.At, w.Line, w.Col = at, len(lines), len(lines[len(lines)-1])+1
		list = append(list, w)
		if w.Kind == api.WEnd {
			return list, api.Fault{}
		}
		at += len(w.Text)
	}
}

func (p wanted) word(rest string) (api.Word, api.Fault) {
	if rest == "" {
		return api.Word{Kind: api.WEnd}, api.Fault{}
	}
	if s := p.letters.FindString(rest); s != "" {
		if len(s) > api.MaxName {
			return api.Word{}, api.Fault{Code: api.ErrName}
		}
		if s[0] <= 'Z' {
			return api.Word{Kind: api.WName, Text: s}, api.Fault{}
		}
		return api.Word{Kind: api.WKey, Text: s}, api.Fault{}
	}
	if s := p.digits.FindString(rest); s != "" {
		n, err := strconv.Atoi(s)
		if err != nil || n > 999999 || strconv.Itoa(n) != s {
			return api.Word{}, api.Fault{Code: api.ErrNumber}
		}
		return api.Word{Kind: api.WNumber, Text: s, N: n}, api.Fault{}
	}
	if s := p.signs.FindString(rest); s != "" {
		return api.Word{Kind: api.WSign, Text: s}, api.Fault{}
	}
	if s := p.quoted.FindString(rest); s != "" {
		return quotedWord(s, rest)
	}
	if rest[0] != '[' {
		return api.Word{}, api.Fault{Code: api.ErrByte}
	}
	s := p.set.FindString(rest)
	if s == "" {
		return api.Word{}, api.Fault{Code: api.ErrOpen}
	}
	set, f := charset.Parse(s)
	if f.Code != api.OK {
		return api.Word{}, f
	}
	return api.Word{Kind: api.WSet, Text: s, Set: set}, api.Fault{}
}

// quotedWord is the text whose quote and signs are s, with which rest begins.
func quotedWord(s, rest string) (api.Word, api.Fault) {
	switch behind := rest[len(s):]; {
	case behind == "":
		return api.Word{}, api.Fault{Code: api.ErrOpen}
	case behind[0] == '\\':
		return api.Word{}, api.Fault{At: len(s), Code: api.ErrEscape}
	case behind[0] != '"':
		return api.Word{}, api.Fault{At: len(s), Code: api.ErrByte}
	}
	said, err := strconv.Unquote(s + `"`)
	if err != nil {
		panic(err)
	}
	w := api.Word{Kind: api.WText, Text: s + `"`}
	if said != "" {
		w.Bytes = []byte(said)
	}
	return w, api.Fault{}
}

func TestScanExample(t *testing.T) {
	l, f := Scan("cf E.A = E \"+\" E; # x")
	want := []api.Word{
		{Kind: api.WKey, Text: "cf", At: 0, Line: 1, Col: 1},
		{Kind: api.WName, Text: "E", At: 3, Line: 1, Col: 4},
		{Kind: api.WSign, Text: ".", At: 4, Line: 1, Col: 5},
		{Kind: api.WName, Text: "A", At: 5, Line: 1, Col: 6},
		{Kind: api.WSign, Text: "=", At: 7, Line: 1, Col: 8},
		{Kind: api.WName, Text: "E", At: 9, Line: 1, Col: 10},
		{Kind: api.WText, Text: `"+"`, Bytes: []byte("+"), At: 11, Line: 1, Col: 12},
		{Kind: api.WName, Text: "E", At: 15, Line: 1, Col: 16},
		{Kind: api.WSign, Text: ";", At: 16, Line: 1, Col: 17},
		{Kind: api.WEnd, At: 21, Line: 1, Col: 22},
	}
	if f != (api.Fault{}) || !reflect.DeepEqual(told(l), want) {
		t.Errorf("Scan = %v %v", l, f)
	}
}

func TestScanPlaces(t *testing.T) {
	l, f := Scan("a\n B1 # x\n\r\t[a-c]\n\n\"\\x41\"7")
	want := []api.Word{
		{Kind: api.WKey, Text: "a", At: 0, Line: 1, Col: 1},
		{Kind: api.WName, Text: "B1", At: 3, Line: 2, Col: 2},
		{Kind: api.WSet, Text: "[a-c]", Set: charset.Of('a', 'b', 'c'), At: 12, Line: 3, Col: 3},
		{Kind: api.WText, Text: `"\x41"`, Bytes: []byte("A"), At: 19, Line: 5, Col: 1},
		{Kind: api.WNumber, Text: "7", N: 7, At: 25, Line: 5, Col: 7},
		{Kind: api.WEnd, At: 26, Line: 5, Col: 8},
	}
	if f != (api.Fault{}) || !reflect.DeepEqual(told(l), want) {
		t.Errorf("Scan = %v %v", l, f)
	}
}

func TestScanKinds(t *testing.T) {
	for _, c := range []struct {
		text string
		want []api.Word
	}{
		{"", nil},
		{" \t\r\n", nil},
		{"# all of it \x00\xff \"", nil},
		{"#\n#x\n##", nil},
		{"0", []api.Word{{Kind: api.WNumber, Text: "0"}}},
		{"999999", []api.Word{{Kind: api.WNumber, Text: "999999", N: 999999}}},
		{"100000x", []api.Word{{Kind: api.WNumber, Text: "100000", N: 100000}, {Kind: api.WKey, Text: "x"}}},
		{"0A", []api.Word{{Kind: api.WNumber, Text: "0"}, {Kind: api.WName, Text: "A"}}},
		{"-5", []api.Word{{Kind: api.WSign, Text: "-"}, {Kind: api.WNumber, Text: "5", N: 5}}},
		{"aB0_Ab", []api.Word{{Kind: api.WKey, Text: "aB0"}, {Kind: api.WSign, Text: "_"}, {Kind: api.WName, Text: "Ab"}}},
		{"a#b", []api.Word{{Kind: api.WKey, Text: "a"}}},
		{"a#b\nc", []api.Word{{Kind: api.WKey, Text: "a"}, {Kind: api.WKey, Text: "c"}}},
		{`""`, []api.Word{{Kind: api.WText, Text: `""`}}},
		{`"#\"[" # "`, []api.Word{{Kind: api.WText, Text: `"#\"["`, Bytes: []byte(`#"[`)}}},
		{`"a""b"`, []api.Word{{Kind: api.WText, Text: `"a"`, Bytes: []byte("a")}, {Kind: api.WText, Text: `"b"`, Bytes: []byte("b")}}},
		{"[]", []api.Word{{Kind: api.WSet, Text: "[]"}}},
		{"[^]", []api.Word{{Kind: api.WSet, Text: "[^]", Set: charset.Not(charset.Of())}}},
		{`[\]#]`, []api.Word{{Kind: api.WSet, Text: `[\]#]`, Set: charset.Of(']', '#')}}},
		{`[\\]`, []api.Word{{Kind: api.WSet, Text: `[\\]`, Set: charset.Of('\\')}}},
		{`[a][b]`, []api.Word{{Kind: api.WSet, Text: `[a]`, Set: charset.Of('a')}, {Kind: api.WSet, Text: `[b]`, Set: charset.Of('b')}}},
		{"A" + strings.Repeat("z", api.MaxName-1), []api.Word{{Kind: api.WName, Text: "A" + strings.Repeat("z", api.MaxName-1)}}},
	} {
		l, f := Scan(c.text)
		if f != (api.Fault{}) || !reflect.DeepEqual(unplaced(l), c.want) {
			t.Errorf("Scan(%q) = %v %v", c.text, l, f)
		}
		if len(l) == 0 || l[len(l)-1].Kind != api.WEnd || l[len(l)-1].At != len(c.text) {
			t.Errorf("Scan(%q) has no end: %v", c.text, l)
		}
	}
}

func TestScanOfEachByte(t *testing.T) {
	for b := range 256 {
		c := byte(b)
		l, f := Scan(string([]byte{c}))
		switch {
		case strings.IndexByte(" \t\n\r#", c) >= 0:
			if f != (api.Fault{}) || len(l) != 1 {
				t.Errorf("Scan of byte %d = %v %v", b, l, f)
			}
		case strings.IndexByte("=|.;>?*+{}()_/,-", c) >= 0:
			if f != (api.Fault{}) || len(l) != 2 || l[0].Kind != api.WSign || l[0].Text != string(rune(c)) {
				t.Errorf("Scan of byte %d = %v %v", b, l, f)
			}
		case 'A' <= c && c <= 'Z' || 'a' <= c && c <= 'z' || '0' <= c && c <= '9':
			if f != (api.Fault{}) || len(l) != 2 {
				t.Errorf("Scan of byte %d = %v %v", b, l, f)
			}
		case c == '"' || c == '[':
			if f != (api.Fault{Code: api.ErrOpen}) || len(l) != 0 {
				t.Errorf("Scan of byte %d = %v %v", b, l, f)
			}
		default:
			if f != (api.Fault{Code: api.ErrByte}) || len(l) != 0 {
				t.Errorf("Scan of byte %d = %v %v", b, l, f)
			}
		}
	}
}

func TestScanFaults(t *testing.T) {
	long := strings.Repeat("z", api.MaxName)
	for _, c := range []struct {
		text string
		at   int
		code api.Errno
	}{
		{"a\n B1 07", 6, api.ErrNumber},
		{"1234567", 0, api.ErrNumber},
		{"1 00", 2, api.ErrNumber},
		{"a0 01x", 3, api.ErrNumber},
		{"000000", 0, api.ErrNumber},

		{" A" + long, 1, api.ErrName},
		{"=a" + long, 1, api.ErrName},

		{"a ]", 2, api.ErrByte},
		{`a\`, 1, api.ErrByte},
		{"aé", 1, api.ErrByte},
		{"#\n\x00", 2, api.ErrByte},
		{"a <", 2, api.ErrByte},
		{"a\x0b", 1, api.ErrByte},

		{"a \"b\nc\"", 4, api.ErrByte},
		{"a \"b\x7f", 4, api.ErrByte},
		{"a \"b\xff\"", 4, api.ErrByte},
		{`a "b\q"`, 4, api.ErrEscape},
		{`a "b\`, 4, api.ErrEscape},
		{`a "b\x4`, 4, api.ErrEscape},
		{`a "b`, 2, api.ErrOpen},
		{`a "b\" ; # "`[:8], 2, api.ErrOpen},
		{`a "`, 2, api.ErrOpen},

		{"a [b", 2, api.ErrOpen},
		{`a [b\]`, 2, api.ErrOpen},
		{`a [b\`, 2, api.ErrOpen},
		{"a [", 2, api.ErrOpen},
		{"a [b-]", 5, api.ErrByte},
		{"a [b\n]", 4, api.ErrByte},
		{`a [b\q]`, 4, api.ErrEscape},
		{`a [\x4]`, 3, api.ErrEscape},
		{"a [xz-a]", 4, api.ErrRange},
		{"a [[]", 3, api.ErrByte},
	} {
		l, f := Scan(c.text)
		if len(l) != 0 || f != (api.Fault{At: c.at, Code: c.code}) {
			t.Errorf("Scan(%q) = %v %v, not %v at %d", c.text, l, f, c.code, c.at)
		}
	}
}

func TestScanTellsTheFirstFault(t *testing.T) {
	long := strings.Repeat("z", api.MaxName+1)
	for _, c := range []struct {
		text string
		at   int
		code api.Errno
	}{
		{"01 ]", 0, api.ErrNumber},
		{"] 01", 0, api.ErrByte},
		{long + " 01", 0, api.ErrName},
		{"01 " + long, 0, api.ErrNumber},
		{"\"\x01\\q\"", 1, api.ErrByte},
		{"\"\\q\x01\"", 1, api.ErrEscape},
		{"\"a\\q", 2, api.ErrEscape},
		{"\"a\x01", 2, api.ErrByte},
		{"[\\q", 0, api.ErrOpen},
		{"[\x01", 0, api.ErrOpen},
		{"[z-a\\q]", 1, api.ErrRange},
		{"[a-] 01", 3, api.ErrByte},
		{"\"a ] 01", 0, api.ErrOpen},
		{"[a \"b] 01", 2, api.ErrByte},
	} {
		l, f := Scan(c.text)
		if len(l) != 0 || f != (api.Fault{At: c.at, Code: c.code}) {
			t.Errorf("Scan(%q) = %v %v, not %v at %d", c.text, l, f, c.code, c.at)
		}
	}
}

func TestScanLongTexts(t *testing.T) {
	blanks := strings.Repeat(" ", api.MaxText)
	l, f := Scan(blanks)
	if f != (api.Fault{}) || !reflect.DeepEqual(told(l), []api.Word{{Kind: api.WEnd, At: api.MaxText, Line: 1, Col: api.MaxText + 1}}) {
		t.Errorf("Scan = %v %v", l, f)
	}
	for _, text := range []string{blanks + " ", "]" + blanks, blanks + "]"} {
		if l, f := Scan(text); len(l) != 0 || f != (api.Fault{Code: api.ErrLong}) {
			t.Errorf("Scan of a text too long = %v %v", l, f)
		}
	}
	if l, f := Scan(strings.Repeat(";", api.MaxText)); f != (api.Fault{}) || len(l) != api.MaxText+1 {
		t.Errorf("Scan of signs: %d words, %v", len(l), f)
	}
	if l, f := Scan(strings.Repeat("\n", api.MaxText-1) + "]"); len(l) != 0 || f != (api.Fault{At: api.MaxText - 1, Code: api.ErrByte}) {
		t.Errorf("Scan = %v %v", l, f)
	}
	set := "[" + strings.Repeat("a", api.MaxText-2) + "]"
	if l, f := Scan(set); f != (api.Fault{}) || len(l) != 2 || l[0].Set != charset.Of('a') {
		t.Errorf("Scan of a long set: %d words, %v", len(l), f)
	}
}

func TestScanIsNewMemory(t *testing.T) {
	l, _ := Scan(`"ab" "cd"`)
	l[0].Bytes = append(l[0].Bytes, 'x')
	l[0].Bytes[0] = 'y'
	if string(l[1].Bytes) != "cd" {
		t.Errorf("two words share memory: %q", l[1].Bytes)
	}
	if l, _ := Scan(`"ab" "cd"`); string(l[0].Bytes) != "ab" {
		t.Errorf("an answer is seen in the next one: %q", l[0].Bytes)
	}
}

// texts calls f with every text of at most n bytes of an alphabet.
func texts(alphabet string, n int, f func(string)) {
	f("")
	level := []string{""}
	for range n {
		var next []string
		for _, s := range level {
			for _, c := range []byte(alphabet) {
				f(s + string([]byte{c}))
				next = append(next, s+string([]byte{c}))
			}
		}
		level = next
	}
}

// holds looks over what Scan tells of one text.
func holds(t *testing.T, p wanted, text string) {
	t.Helper()
	l, f := Scan(text)
	want, g := p.scan(text)
	if f != g || !reflect.DeepEqual(told(l), want) {
		t.Fatalf("Scan(%q) = %v %v, not %v %v", text, l, f, want, g)
	}
	last := -1
	for _, w := range l {
		line, col := Place(text, w.At)
		if w.At <= last || !strings.HasPrefix(text[w.At:], w.Text) || w.Line != line || w.Col != col {
			t.Fatalf("Scan(%q): %v stands elsewhere", text, w)
		}
		last = w.At
	}
	if joined := Join(l); f.Code == api.OK && len(joined) <= api.MaxText {
		back, g := Scan(joined)
		if g != (api.Fault{}) || !reflect.DeepEqual(unplaced(back), unplaced(l)) {
			t.Fatalf("Scan(%q) = %v %v, not %v", joined, back, g, l)
		}
	}
}

func TestScanOfAllShortTexts(t *testing.T) {
	p := newWanted()
	texts("Aa07\"\\x[]^-#\n ", 4, func(text string) { holds(t, p, text) })
	texts("a\"\\x4", 6, func(text string) { holds(t, p, text) })
	texts("a[]\\^-", 6, func(text string) { holds(t, p, text) })
	texts("0a#\n;", 6, func(text string) { holds(t, p, text) })
}

func TestScanOfTwoTexts(t *testing.T) {
	var list []string
	texts("A0\"[]#\n", 3, func(text string) { list = append(list, text) })
	list = append(list, "cf E.A = E \"+\" E; # x", "lex W = [\\s\\n] | \"a b\";\n# y\n", "prio left Mul > left Add;")
	for _, a := range list {
		for _, b := range list {
			l, f := Scan(a)
			m, g := Scan(b)
			if f.Code != api.OK || g.Code != api.OK {
				continue
			}
			both, h := Scan(a + "\n" + b)
			if h != (api.Fault{}) || !reflect.DeepEqual(unplaced(both), append(unplaced(l), unplaced(m)...)) {
				t.Fatalf("Scan(%q) = %v %v", a+"\n"+b, both, h)
			}
		}
	}
}

func FuzzScan(f *testing.F) {
	for _, s := range []string{"cf E.A = E \"+\" E; # x", "a\n B1 07", `"\x4`, "[a-\\]]", "[", "\"\xff", "lex W = [\\s\\n]*; # \xff\nprio non A > right B"} {
		f.Add(s)
	}
	p := newWanted()
	f.Fuzz(func(t *testing.T, text string) {
		if len(text) <= api.MaxText {
			holds(t, p, text)
		}
	})
}
