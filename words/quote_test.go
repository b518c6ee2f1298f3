package words

import (
	"bytes"
	"fmt"
	"strings"
	"testing"

	"tracery/api"
)

func TestQuote(t *testing.T) {
	for _, c := range []struct{ b, want string }{
		{"", `""`},
		{"a\"\n\xc8", `"a\"\n\xc8"`},
		{"\\\t\r", `"\\\t\r"`},
		{" ~\x1f\x7f\x00\xff", `" ~\x1f\x7f\x00\xff"`},
		{"é'`[]", "\"\\xc3\\xa9'`[]\""},
	} {
		if got := Quote([]byte(c.b)); got != c.want {
			t.Errorf("Quote(%q) = %s", c.b, got)
		}
	}
	if got := Quote(nil); got != `""` {
		t.Errorf("Quote(nil) = %s", got)
	}
	for b := range 256 {
		want := fmt.Sprintf(`\x%02x`, b)
		switch {
		case b == '\n':
			want = `\n`
		case b == '\t':
			want = `\t`
		case b == '\r':
			want = `\r`
		case b == '"' || b == '\\':
			want = `\` + string(rune(b))
		case 32 <= b && b <= 126:
			want = string(rune(b))
		}
		if got := Quote([]byte{byte(b)}); got != `"`+want+`"` {
			t.Errorf("Quote of %d = %s", b, got)
		}
	}
}

func TestQuoteLeavesItsArgument(t *testing.T) {
	given := []byte("a\"b")
	if got := Quote(given[:1]); got != `"a"` || string(given) != "a\"b" {
		t.Errorf("%s, %q", got, given)
	}
}

func unquotes(t *testing.T, text, want string, at int, code api.Errno) {
	t.Helper()
	b, f := Unquote(text)
	if string(b) != want || f != (api.Fault{At: at, Code: code}) {
		t.Errorf("Unquote(%.40q) = %.40q %v, not %v at %d", text, b, f, code, at)
	}
}

func TestUnquote(t *testing.T) {
	for _, c := range []struct{ text, want string }{
		{`""`, ""},
		{`"\x4A"`, "J"},
		{`"\x4a\xfF\x00"`, "J\xff\x00"},
		{`"a\"\n\xc8"`, "a\"\n\xc8"},
		{`"\\\t\r\""`, "\\\t\r\""},
		{`" ~[]#"`, " ~[]#"},
	} {
		unquotes(t, c.text, c.want, 0, api.OK)
	}
}

func TestUnquoteFaults(t *testing.T) {
	for _, c := range []struct {
		text string
		at   int
		code api.Errno
	}{
		{``, 0, api.ErrOpen},
		{`a`, 0, api.ErrOpen},
		{` ""`, 0, api.ErrOpen},
		{`'a'`, 0, api.ErrOpen},
		{`"`, 0, api.ErrOpen},
		{`"a`, 0, api.ErrOpen},
		{`"a\"`, 0, api.ErrOpen},
		{`"\n`, 0, api.ErrOpen},

		{"\"\n\"", 1, api.ErrByte},
		{"\"a\x1f\"", 2, api.ErrByte},
		{"\"a\x7f\"", 2, api.ErrByte},
		{"\"a\xff\"", 2, api.ErrByte},
		{"\"aé\"", 2, api.ErrByte},
		{"\"\x00", 1, api.ErrByte},
		{"\"a\t", 2, api.ErrByte},

		{`"\q"`, 1, api.ErrEscape},
		{`"\s"`, 1, api.ErrEscape},
		{`"\[a"`, 1, api.ErrEscape},
		{`"a\`, 2, api.ErrEscape},
		{`"a\q`, 2, api.ErrEscape},
		{`"\x"`, 1, api.ErrEscape},
		{`"\x4"`, 1, api.ErrEscape},
		{`"\x4`, 1, api.ErrEscape},
		{`"\x4g"`, 1, api.ErrEscape},
		{`"\X41"`, 1, api.ErrEscape},
		{`"\N"`, 1, api.ErrEscape},
		{"\"\\\n\"", 1, api.ErrEscape},

		{`""a`, 2, api.ErrRest},
		{`"a" `, 3, api.ErrRest},
		{`"a""b"`, 3, api.ErrRest},
		{`"\""x`, 4, api.ErrRest},

		// which of two faults comes first
		{"\"\x01\\q\"", 1, api.ErrByte},
		{"\"\\q\x01\"", 1, api.ErrEscape},
		{"\"\\q\"x", 1, api.ErrEscape},
		{"\"\x01\"x", 1, api.ErrByte},
		{"\"\"\x01", 2, api.ErrRest},
	} {
		unquotes(t, c.text, "", c.at, c.code)
	}
}

func TestUnquoteLongTexts(t *testing.T) {
	inner := strings.Repeat("a", api.MaxText-2)
	full := `"` + inner + `"`
	unquotes(t, full, inner, 0, api.OK)
	unquotes(t, full+`"`, "", 0, api.ErrLong)
	unquotes(t, strings.Repeat("a", api.MaxText), "", 0, api.ErrOpen)
	unquotes(t, strings.Repeat("a", api.MaxText+1), "", 0, api.ErrLong)
	unquotes(t, full[:api.MaxText-1]+`a`, "", 0, api.ErrOpen)
	unquotes(t, `"`+strings.Repeat("\x01", api.MaxText), "", 0, api.ErrLong)
}

func TestQuoteThereAndBack(t *testing.T) {
	var all []byte
	for a := range 256 {
		for b := range 256 {
			pair := []byte{byte(a), byte(b)}
			if back, f := Unquote(Quote(pair)); !bytes.Equal(back, pair) || f != (api.Fault{}) {
				t.Fatalf("Unquote(%s) = %q %v", Quote(pair), back, f)
			}
		}
		all = append(all, byte(a))
	}
	if back, f := Unquote(Quote(all)); !bytes.Equal(back, all) || f != (api.Fault{}) {
		t.Errorf("Unquote of all bytes = %q %v", back, f)
	}
	if back, f := Unquote(Quote(nil)); len(back) != 0 || f != (api.Fault{}) {
		t.Errorf("Unquote of nothing = %q %v", back, f)
	}
}

func FuzzUnquote(f *testing.F) {
	for _, s := range []string{`""`, `"a`, `"\x4`, `"a"b`, "\"\xff"} {
		f.Add(s)
	}
	f.Fuzz(func(t *testing.T, text string) {
		b, fault := Unquote(text)
		if fault.Code != api.OK && len(b) != 0 || fault.At < 0 || fault.At > len(text) {
			t.Fatalf("%q %v", b, fault)
		}
		if quoted := Quote([]byte(text)); len(quoted) <= api.MaxText {
			if back, g := Unquote(quoted); string(back) != text || g != (api.Fault{}) {
				t.Fatalf("%q %v", back, g)
			}
		}
	})
}
