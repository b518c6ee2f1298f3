package charset

import (
	"fmt"
	"regexp"
	"strings"
	"testing"

	"tracery/api"
)

// wantSign is a byte's sign, by the chapter's words.
func wantSign(b int) string {
	switch {
	case b == 10:
		return `\n`
	case b == 9:
		return `\t`
	case b == 13:
		return `\r`
	case b == 32:
		return `\s`
	case strings.ContainsRune(`[]\-^`, rune(b)):
		return `\` + string(rune(b))
	case 33 <= b && b <= 126:
		return string(rune(b))
	}
	return fmt.Sprintf(`\x%02x`, b)
}

func TestPrint(t *testing.T) {
	for _, c := range []struct {
		s    api.Set
		want string
	}{
		{Of('a', 'b', 'c', 'x', 10), `[\na-cx]`},
		{Of(), `[]`},
		{Not(Of()), `[\x00-\xff]`},
		{Of(0, 255), `[\x00\xff]`},
		{Of('a', 'b'), `[ab]`},
		{Of('a', 'b', 'c'), `[a-c]`},
		{Of('a', 'c'), `[ac]`},
		{Of('[', ']', '\\', '-', '^'), `[\-\[-\^]`},
		{Of(9, 10, 13, 32), `[\t\n\r\s]`},
		{Of(9, 10, 11), `[\t-\x0b]`},
		{Of(31, 32, 33), `[\x1f-!]`},
		{Of(126, 127), `[~\x7f]`},
	} {
		if got := Print(c.s); got != c.want {
			t.Errorf("Print(%v) = %q, not %q", c.s, got, c.want)
		}
	}
	for b := range 256 {
		if got := Print(Of(byte(b))); got != "["+wantSign(b)+"]" {
			t.Errorf("Print of %d = %q", b, got)
		}
	}
}

// parses holds Parse against what it must answer: with a fault the set is empty.
func parses(t *testing.T, text string, set api.Set, at int, code api.Errno) {
	t.Helper()
	got, f := Parse(text)
	if got != set || f != (api.Fault{At: at, Code: code}) {
		t.Errorf("Parse(%.40q) = %v %v, not %v %v at %d", text, got, f, set, code, at)
	}
}

func TestParseSets(t *testing.T) {
	digits, _ := Range('0', '9')
	low, _ := Range(0, 31)
	seen, _ := Range(33, 126)
	for _, c := range []struct {
		text string
		want api.Set
	}{
		{`[]`, Of()},
		{`[^]`, Not(Of())},
		{`[^a]`, Not(Of('a'))},
		{`[\^a]`, Of('^', 'a')},
		{`[^\^]`, Not(Of('^'))},
		{`[0-9]`, digits},
		{`[^0-9]`, Not(digits)},
		{`[5-50-95]`, digits},
		{`[a-a]`, Of('a')},
		{`[cab]`, Of('a', 'b', 'c')},
		{`[\x00-\x1f]`, low},
		{`[\x00-\x1F]`, low},
		{`[\x00-\xfF]`, Not(Of())},
		{`[\x41\x5d\x2d]`, Of('A', ']', '-')},
		{`[\n\t\r\s]`, Of(10, 9, 13, 32)},
		{`[\[\]\\\-\^]`, Of('[', ']', '\\', '-', '^')},
		{`[\--\-]`, Of('-')},
		{`[\[-\]]`, Of('[', '\\', ']')},
		{`[!-~]`, seen},
		{`["]`, Of('"')},
	} {
		parses(t, c.text, c.want, 0, api.OK)
	}
	for b := range 256 {
		parses(t, "["+wantSign(b)+"]", Of(byte(b)), 0, api.OK)
		parses(t, fmt.Sprintf(`[\x%02x]`, b), Of(byte(b)), 0, api.OK)
		parses(t, fmt.Sprintf(`[\x%02X]`, b), Of(byte(b)), 0, api.OK)
	}
}

func TestParseFaults(t *testing.T) {
	for _, c := range []struct {
		text string
		at   int
		code api.Errno
	}{
		{"", 0, api.ErrOpen},
		{"a", 0, api.ErrOpen},
		{" [a]", 0, api.ErrOpen},
		{"]", 0, api.ErrOpen},
		{`\q`, 0, api.ErrOpen},

		{"[", 1, api.ErrShort},
		{"[^", 2, api.ErrShort},
		{"[a", 2, api.ErrShort},
		{"[a-", 3, api.ErrShort},
		{"[a-b", 4, api.ErrShort},
		{`[\]`, 3, api.ErrShort},

		{`[\q]`, 1, api.ErrEscape},
		{`[\`, 1, api.ErrEscape},
		{`[a\`, 2, api.ErrEscape},
		{`[a-\`, 3, api.ErrEscape},
		{`[a-\q]`, 3, api.ErrEscape},
		{`[\x]`, 1, api.ErrEscape},
		{`[\x4]`, 1, api.ErrEscape},
		{`[\x4`, 1, api.ErrEscape},
		{`[\x`, 1, api.ErrEscape},
		{`[\x4g]`, 1, api.ErrEscape},
		{`[\xg4]`, 1, api.ErrEscape},
		{`[\X41]`, 1, api.ErrEscape},
		{`[\N]`, 1, api.ErrEscape},
		{`[\a]`, 1, api.ErrEscape},
		{"[\\\n]", 1, api.ErrEscape},
		{`[\"]`, 1, api.ErrEscape},

		{"[ ]", 1, api.ErrByte},
		{"[a\n]", 2, api.ErrByte},
		{"[\x00]", 1, api.ErrByte},
		{"[\x7f]", 1, api.ErrByte},
		{"[\xff]", 1, api.ErrByte},
		{"[é]", 1, api.ErrByte},
		{"[[]", 1, api.ErrByte},
		{"[-]", 1, api.ErrByte},
		{"[-a]", 1, api.ErrByte},
		{"[a-]", 3, api.ErrByte},
		{"[a--]", 3, api.ErrByte},
		{"[a-b-c]", 4, api.ErrByte},
		{"[a-^]", 3, api.ErrByte},
		{"[a-[]", 3, api.ErrByte},
		{"[a- ]", 3, api.ErrByte},
		{"[a^]", 2, api.ErrByte},
		{"[^^]", 2, api.ErrByte},
		{"[^-a]", 2, api.ErrByte},

		{"[z-a]", 1, api.ErrRange},
		{"[^z-a]", 2, api.ErrRange},
		{"[ab-a]", 2, api.ErrRange},
		{`[\x62-a]`, 1, api.ErrRange},
		{`[b-\x61]`, 1, api.ErrRange},
		{`[\xff-\x00]`, 1, api.ErrRange},

		{"[a]b", 3, api.ErrRest},
		{"[]]", 2, api.ErrRest},
		{"[a] ", 3, api.ErrRest},
		{"[a][b]", 3, api.ErrRest},
	} {
		parses(t, c.text, api.Set{}, c.at, c.code)
	}
}

func TestParseTellsTheFirstFault(t *testing.T) {
	for _, c := range []struct {
		text string
		at   int
		code api.Errno
	}{
		{"[z-a", 1, api.ErrRange},
		{`[z-a\q]`, 1, api.ErrRange},
		{`[\qz-a]`, 1, api.ErrEscape},
		{"[ z-a]", 1, api.ErrByte},
		{"[z-a ]", 1, api.ErrRange},
		{`[z-\q]`, 3, api.ErrEscape},
		{"[z-]", 3, api.ErrByte},
		{`[a \q]`, 2, api.ErrByte},
		{`[a\q ]`, 2, api.ErrEscape},
		{"[a ", 2, api.ErrByte},
		{`[\q`, 1, api.ErrEscape},
		{"[z-a]b", 1, api.ErrRange},
		{`[\q]b`, 1, api.ErrEscape},
		{"[a]\xff", 3, api.ErrRest},
	} {
		parses(t, c.text, api.Set{}, c.at, c.code)
	}
}

func TestParseLongTexts(t *testing.T) {
	full := "[" + strings.Repeat("a", api.MaxText-2) + "]"
	parses(t, full, Of('a'), 0, api.OK)
	parses(t, full+" ", api.Set{}, 0, api.ErrLong)
	parses(t, strings.Repeat("a", api.MaxText), api.Set{}, 0, api.ErrOpen)
	parses(t, strings.Repeat("a", api.MaxText+1), api.Set{}, 0, api.ErrLong)
	parses(t, full[:api.MaxText-1]+"b", api.Set{}, api.MaxText, api.ErrShort)
	parses(t, full[:api.MaxText-1]+`\`, api.Set{}, api.MaxText-1, api.ErrEscape)
	parses(t, "["+strings.Repeat(" ", api.MaxText), api.Set{}, 0, api.ErrLong)
}

// texts calls f with every text of at most n bytes of an alphabet.
func texts(alphabet string, n int, f func(string)) {
	f("")
	level := []string{""}
	for range n {
		var next []string
		for _, s := range level {
			for _, c := range []byte(alphabet) {
				f(s + string([]byte{c}))
				next = append(next, s+string([]byte{c}))
			}
		}
		level = next
	}
}

// What is a set's text is said here by a pattern; a fault's place by what is ahead of it.
func TestParseOfAllShortTexts(t *testing.T) {
	sign := `(?:[!-,.-Z_-~]|\\[\[\]\\^ntrs-]|\\x[0-9a-fA-F]{2})`
	right := regexp.MustCompile(`^\[\^?(?:` + sign + `(?:-` + sign + `)?)*\]$`)
	texts(`[]^-\ax4 `, 6, func(text string) {
		set, f := Parse(text)
		if matches := right.MatchString(text); f.Code == api.OK && !matches || matches && f.Code != api.OK && f.Code != api.ErrRange {
			t.Fatalf("Parse(%q): %v", text, f)
		}
		if f.Code != api.OK && set != (api.Set{}) || f.Code == api.OK && f.At != 0 {
			t.Fatalf("Parse(%q) = %v %v", text, set, f)
		}
		switch f.Code {
		case api.OK:
			if back, g := Parse(Print(set)); back != set || g != (api.Fault{}) {
				t.Fatalf("Parse(Print(%v)) = %v %v", set, back, g)
			}
		case api.ErrShort:
			if _, g := Parse(text + `\xff]`); f.At != len(text) || g.Code != api.OK {
				t.Fatalf("Parse(%q): %v; with an end: %v", text, f, g)
			}
		case api.ErrRest:
			if _, g := Parse(text[:f.At]); g != (api.Fault{}) {
				t.Fatalf("Parse(%q): %v; ahead: %v", text, f, g)
			}
		case api.ErrByte, api.ErrEscape, api.ErrRange:
			if _, g := Parse(text[:f.At]); g != (api.Fault{At: f.At, Code: api.ErrShort}) {
				t.Fatalf("Parse(%q): %v; ahead: %v", text, f, g)
			}
		}
	})
}

func TestThereAndBack(t *testing.T) {
	list := samples()
	for a := range 256 {
		for b := a; b < 256; b++ {
			s, _ := Range(a, b)
			list = append(list, s, Not(s), Of(byte(a), byte(b)))
		}
	}
	for _, s := range list {
		if back, f := Parse(Print(s)); back != s || f != (api.Fault{}) {
			t.Fatalf("Parse(%q) = %v %v", Print(s), back, f)
		}
	}
}

func TestSameTextsSameSets(t *testing.T) {
	for _, a := range samples() {
		for _, b := range samples() {
			if (a == b) != (Print(a) == Print(b)) {
				t.Fatalf("%v %q, %v %q", a, Print(a), b, Print(b))
			}
		}
	}
}

func FuzzParse(f *testing.F) {
	for _, s := range []string{"[^a]", "[z-a]", `[\x00-\xff]`, "[a-]", "", "[", `[\`} {
		f.Add(s)
	}
	f.Fuzz(func(t *testing.T, text string) {
		set, fault := Parse(text)
		if fault.Code != api.OK && set != (api.Set{}) {
			t.Fatalf("%v %v", set, fault)
		}
		if fault.At < 0 || fault.At > len(text) {
			t.Fatalf("%v", fault)
		}
		if back, g := Parse(Print(set)); back != set || g != (api.Fault{}) {
			t.Fatalf("%v %v", back, g)
		}
	})
}
