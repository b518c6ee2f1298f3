package words

import (
	"math"
	"regexp"
	"strings"
	"testing"

	"tracery/api"
)

func TestIsNameIsKey(t *testing.T) {
	for _, c := range []struct {
		s         string
		name, key bool
	}{
		{"", false, false},
		{"A", true, false}, {"Z", true, false}, {"a", false, true}, {"z", false, true},
		{"A0zZ9", true, false}, {"a0zZ9", false, true},
		{"0", false, false}, {"0A", false, false}, {"9a", false, false},
		{"@", false, false}, {"[", false, false}, {"`", false, false}, {"{", false, false},
		{"A@", false, false}, {"A[", false, false}, {"a`", false, false}, {"a{", false, false}, {"A/", false, false}, {"a:", false, false},
		{"A_b", false, false}, {"a b", false, false}, {" A", false, false}, {"A ", false, false}, {"a\n", false, false},
		{"É", false, false}, {"é", false, false}, {"AÉ", false, false}, {"aé", false, false},
		{"A\xff", false, false}, {"\xc3", false, false}, {"A\x00", false, false}, {"Ａ", false, false}, {"A１", false, false},
		{"A" + strings.Repeat("b", api.MaxName-1), true, false},
		{"A" + strings.Repeat("b", api.MaxName), false, false},
		{"a" + strings.Repeat("9", api.MaxName-1), false, true},
		{"a" + strings.Repeat("9", api.MaxName), false, false},
	} {
		if IsName(c.s) != c.name || IsKey(c.s) != c.key {
			t.Errorf("IsName(%q) = %v, IsKey = %v", c.s, IsName(c.s), IsKey(c.s))
		}
	}
}

func TestIsNameOfAllPairsOfBytes(t *testing.T) {
	name := regexp.MustCompile(`^[A-Z][A-Za-z0-9]*$`)
	key := regexp.MustCompile(`^[a-z][A-Za-z0-9]*$`)
	for a := range 256 {
		for b := range 256 {
			s := string([]byte{byte(a), byte(b)})
			if IsName(s) != (b != '\n' && name.MatchString(s)) || IsKey(s) != (b != '\n' && key.MatchString(s)) {
				t.Fatalf("%q: %v %v", s, IsName(s), IsKey(s))
			}
		}
	}
}

func TestPlace(t *testing.T) {
	for _, c := range []struct {
		text          string
		at, line, col int
	}{
		{"a\nbc", 3, 2, 2},
		{"a\nbc", 0, 1, 1}, {"a\nbc", 1, 1, 2}, {"a\nbc", 2, 2, 1}, {"a\nbc", 4, 2, 3},
		{"a\nbc", 5, 0, 0}, {"a\nbc", -1, 0, 0}, {"a\nbc", math.MaxInt, 0, 0}, {"a\nbc", math.MinInt, 0, 0},
		{"", 0, 1, 1}, {"", 1, 0, 0}, {"", -1, 0, 0},
		{"\n\n", 0, 1, 1}, {"\n\n", 1, 2, 1}, {"\n\n", 2, 3, 1},
		{"a\rb", 2, 1, 3}, {"é\té", 5, 1, 6},
	} {
		if line, col := Place(c.text, c.at); line != c.line || col != c.col {
			t.Errorf("Place(%q, %d) = %d, %d", c.text, c.at, line, col)
		}
	}
	long := strings.Repeat("x\n", api.MaxText)
	if line, col := Place(long, len(long)); line != api.MaxText+1 || col != 1 {
		t.Errorf("Place at the end of a long text = %d, %d", line, col)
	}
}

func TestJoin(t *testing.T) {
	word := func(kind int, text string) api.Word { return api.Word{Kind: kind, Text: text} }
	for _, c := range []struct {
		l    []api.Word
		want string
	}{
		{nil, ""},
		{[]api.Word{}, ""},
		{[]api.Word{word(api.WEnd, "")}, ""},
		{[]api.Word{word(api.WEnd, "x")}, ""},
		{[]api.Word{word(api.WName, "A")}, "A"},
		{[]api.Word{word(api.WName, "A"), word(api.WEnd, "")}, "A"},
		{[]api.Word{word(api.WEnd, "x"), word(api.WName, "A"), word(api.WEnd, "y"), word(api.WKey, "b")}, "A b"},
		{[]api.Word{word(0, ""), word(-1, "b"), word(99, "")}, " b "},
		{[]api.Word{word(api.WText, ""), word(api.WText, "")}, " "},
		{[]api.Word{word(api.WText, `"a  b"`), word(api.WSign, ";")}, `"a  b" ;`},
	} {
		if got := Join(c.l); got != c.want {
			t.Errorf("Join(%v) = %q", c.l, got)
		}
	}
	list := []api.Word{word(api.WName, "A"), word(api.WName, "B")}
	if got := Join(list[:1]); got != "A" {
		t.Errorf("Join reads behind a list's length: %q", got)
	}
}
