package lexicon

import (
	"strings"
	"testing"

	"tracery/api"
	"tracery/charset"
	"tracery/forest"
	"tracery/trees"
)

// gram has nonterminals that need one another's rules in part, and rules that stand in no order: 0 > 1 "," 0 or 1; 1 > digit, 1 digit or digit 1; 2 > nothing or 0 ";" 2; 3 > "x".
func gram() api.Gram {
	byteOf := func(s string) api.KSym { return api.KSym{Nt: -1, Set: charset.Of([]byte(s)...)} }
	digit := byteOf("0123456789")
	return api.Gram{Nts: 4, Start: 3, Rules: []api.Rule{
		{Lhs: 2}, {Lhs: 0, Rhs: []api.KSym{{Nt: 1}, byteOf(","), {Nt: 0}}}, {Lhs: 3, Rhs: []api.KSym{byteOf("x")}}, {Lhs: 1, Rhs: []api.KSym{digit}},
		{Lhs: 2, Rhs: []api.KSym{{Nt: 0}, byteOf(";"), {Nt: 2}}}, {Lhs: 0, Rhs: []api.KSym{{Nt: 1}}}, {Lhs: 1, Rhs: []api.KSym{{Nt: 1}, digit}}, {Lhs: 1, Rhs: []api.KSym{digit, {Nt: 1}}},
	}}
}

// The first tree is that of the whole grammar with another Start, asked for once or again.
func TestFirst(t *testing.T) {
	l := New(gram())
	for nt := range 4 {
		g := gram()
		g.Start = nt
		for range 2 {
			for _, text := range []string{"", "1", "12", "123", "1,2", "12,3;", "x", "xx", ";", "1;2;3,45;", "y", strings.Repeat("1", api.MaxInput), strings.Repeat("1", api.MaxInput+1)} {
				want, _ := forest.Trees(g, []byte(text), 1)
				have, is := l.First(nt, []byte(text))
				if is != (len(want) == 1) || is && !trees.Same(have, want[0]) || !is && !trees.Same(have, api.Tree{}) {
					t.Errorf("%.20q of %d: %v %v", text, nt, have, is)
				}
			}
		}
	}
}

// What is written into a tree is not seen in the next one.
func TestNewMemory(t *testing.T) {
	l := New(gram())
	first, _ := l.First(0, []byte("12,3"))
	want, _ := trees.At(first, nil)
	first.Kids[0].Kids[0].Rule, first.Kids[1].Byte = 99, 'z'
	if again, is := l.First(0, []byte("12,3")); !is || !trees.Same(again, want) {
		t.Errorf("%v %v", again, is)
	}
}
