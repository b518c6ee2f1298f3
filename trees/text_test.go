package trees

import (
	"math"
	"slices"
	"strings"
	"testing"

	"tracery/api"
)

// P9.4: trees and their texts, the chapter's examples first.
func TestTexts(t *testing.T) {
	for _, c := range []struct {
		tree api.Tree
		text string
	}{
		{example(), "0(x31 x2b 1(x32))"}, {node(3), "3()"}, {api.Tree{}, "0()"},
		{leaf(0), "x00"}, {leaf(9), "x09"}, {leaf(0x0a), "x0a"}, {leaf(0xa0), "xa0"}, {leaf(0xff), "xff"}, {leaf(0x9f), "x9f"}, {leaf(0xf9), "xf9"}, {leaf('x'), "x78"},
		{node(9), "9()"}, {node(10), "10()"}, {node(100), "100()"}, {node(999999), "999999()"}, {node(100000), "100000()"}, {node(900009), "900009()"},
		{node(1, node(2), node(3)), "1(2() 3())"}, {node(1, node(2, node(3, node(4)))), "1(2(3(4())))"},
		{node(0, node(0), leaf(0), node(0, leaf(0), leaf(1)), node(12, node(13))), "0(0() x00 0(x00 x01) 12(13()))"},
	} {
		text, code := Print(c.tree)
		if text != c.text || code != api.OK {
			t.Errorf("%s: %q %d, not %q", all(c.tree), text, code, c.text)
		}
		if tree, fault := Parse(c.text); !Same(tree, c.tree) || fault != (api.Fault{}) {
			t.Errorf("%q: %s %v", c.text, all(tree), fault)
		}
	}
	for b := range 256 {
		text, code := Print(leaf(byte(b)))
		if tree, fault := Parse(text); code != api.OK || fault != (api.Fault{}) || !Same(tree, leaf(byte(b))) {
			t.Errorf("byte %d: %q %d, %s %v", b, text, code, all(tree), fault)
		}
	}
}

// P9.4: trees without a text.
func TestNotPlain(t *testing.T) {
	wrong := []api.Tree{
		odd(-1, 'a', leaf('b')), odd(-1, 0, node(3)), odd(3, 1), odd(0, 255), odd(3, 1, leaf('a')),
		node(-2), node(-3), node(math.MinInt), node(1000000), node(math.MaxInt), node(-2, leaf('a')), odd(-2, 7),
	}
	for _, bottom := range wrong {
		for _, tree := range []api.Tree{bottom, node(1, bottom), node(1, leaf('a'), node(2, leaf('b'), bottom), node(3)), tower(api.MaxNest, bottom)} {
			if text, code := Print(tree); text != "" || code != api.ErrTree {
				t.Errorf("%s: %q %d", all(tree), text, code)
			}
		}
	}
}

// P9.4: how deep a tree may be.
func TestMaxNest(t *testing.T) {
	const most = api.MaxNest
	for _, bottom := range []api.Tree{leaf('a'), node(7)} {
		deep := tower(most, bottom)
		text, code := Print(deep)
		if tree, fault := Parse(text); code != api.OK || fault != (api.Fault{}) || !Same(tree, deep) {
			t.Errorf("%d deep: %d %v", most, code, fault)
		}
		for _, tree := range []api.Tree{tower(most+1, bottom), node(1, leaf('a'), deep), node(1, deep, leaf('a')), tower(2*most, bottom), odd(1, 1, deep)} {
			if text, code := Print(tree); text != "" || code != api.ErrTree {
				t.Errorf("deeper: %q %d", text, code)
			}
		}
	}
	in := strings.Repeat("0(", most)
	out := strings.Repeat(")", most)
	for text, want := range map[string]api.Fault{
		in + out:                             {},
		in[2:] + "x61" + out[1:]:             {},
		in + "x61" + out:                     {At: 2 * most, Code: api.ErrLong},
		in + "0()" + out:                     {At: 2 * most, Code: api.ErrLong},
		in + "x":                             {At: 2 * most, Code: api.ErrLong}, // that it ends is told further right
		in + "07()":                          {At: 2 * most, Code: api.ErrLong},
		in + "xx":                            {At: 2 * most, Code: api.ErrLong},
		in:                                   {At: 2 * most, Code: api.ErrShort}, // no tree begins here
		in + "?":                             {At: 2 * most, Code: api.ErrByte},
		in + " x61":                          {At: 2 * most, Code: api.ErrByte},
		in + out + out:                       {At: 3 * most, Code: api.ErrRest},
		in[2:] + "x61 x62 0(x63)" + out[1:]:  {At: 2*most + 8, Code: api.ErrLong},
		in[2:] + "x61 x62 0() 1()" + out[1:]: {},
		in[2:] + "0() 0(0()" + out[1:]:       {At: 2*most + 4, Code: api.ErrLong},
		"0(x61 " + in[2:] + "x61" + out[1:] + "))": {At: 2*most + 4, Code: api.ErrLong},
	} {
		if tree, fault := Parse(text); fault != want || fault != (api.Fault{}) && !Same(tree, api.Tree{}) {
			t.Errorf("%q: %v, not %v", strings.ReplaceAll(text, in, "IN"), fault, want)
		}
	}
}

// P9.4: how long a text may be.
func TestMaxText(t *testing.T) {
	wide := func(rule, n int) api.Tree { return node(rule, slices.Repeat([]api.Tree{leaf('a')}, n)...) }
	n := (api.MaxText - len("100)")) / len("(x61")
	most := wide(100, n)
	text, code := Print(most)
	if code != api.OK || len(text) != api.MaxText {
		t.Fatalf("%d bytes, %d", len(text), code)
	}
	if tree, fault := Parse(text); fault != (api.Fault{}) || !Same(tree, most) {
		t.Errorf("%d bytes: %v", len(text), fault)
	}
	for _, tree := range []api.Tree{wide(1000, n), wide(100, n+1), wide(100, 20*n), node(1, most), node(100, append(slices.Clone(most.Kids[1:]), node(10))...)} {
		if text, code := Print(tree); text != "" || code != api.ErrLong {
			t.Errorf("one byte more: %d bytes, %d", len(text), code)
		}
	}
	// a tree that is not plain, or too deep, is told ahead of its length
	for _, last := range []api.Tree{node(-2), odd(1, 1), odd(-1, 'a', leaf('a')), tower(api.MaxNest, leaf('a'))} {
		tree := node(1, append(slices.Clone(wide(1, 2*n).Kids), last)...)
		if text, code := Print(tree); text != "" || code != api.ErrTree {
			t.Errorf("%d bytes, %d", len(text), code)
		}
	}
	for _, text := range []string{text + ")", "1" + text, text + " ", strings.Repeat("?", api.MaxText+1), strings.Repeat("0(", api.MaxText)} {
		if tree, fault := Parse(text); fault != (api.Fault{Code: api.ErrLong}) || !Same(tree, api.Tree{}) {
			t.Errorf("%d bytes: %v", len(text), fault)
		}
	}
	for text, want := range map[string]api.Fault{
		text[:api.MaxText-1]:             {At: api.MaxText - 1, Code: api.ErrShort},
		text[:api.MaxText-1] + "?":       {At: api.MaxText - 1, Code: api.ErrByte},
		text[1:] + ")":                   {At: 1, Code: api.ErrByte},
		text[:1] + text[2:] + ")":        {At: api.MaxText - 1, Code: api.ErrRest},
		strings.Repeat(" ", api.MaxText): {At: 0, Code: api.ErrByte},
	} {
		if tree, fault := Parse(text); fault != want || !Same(tree, api.Tree{}) {
			t.Errorf("%d bytes: %v, not %v", len(text), fault, want)
		}
	}
}

// P9.4: each fault at its place, and which comes first.
func TestFaults(t *testing.T) {
	for text, want := range map[string]api.Fault{
		// the end within a tree
		"": {At: 0, Code: api.ErrShort}, "0": {At: 1, Code: api.ErrShort}, "123456": {At: 6, Code: api.ErrShort}, "0(": {At: 2, Code: api.ErrShort}, "x": {At: 1, Code: api.ErrShort}, "x3": {At: 2, Code: api.ErrShort},
		"0(x31": {At: 5, Code: api.ErrShort}, "0(x31 ": {At: 6, Code: api.ErrShort}, "0(x31 x": {At: 7, Code: api.ErrShort}, "0(x31 x3": {At: 8, Code: api.ErrShort}, "0(1()": {At: 5, Code: api.ErrShort}, "0(1": {At: 3, Code: api.ErrShort}, "0(1(2()": {At: 7, Code: api.ErrShort},
		// a byte that can not stand there: where a tree is to begin
		" ": {At: 0, Code: api.ErrByte}, "()": {At: 0, Code: api.ErrByte}, ")": {At: 0, Code: api.ErrByte}, "-1()": {At: 0, Code: api.ErrByte}, "+1()": {At: 0, Code: api.ErrByte}, "X31": {At: 0, Code: api.ErrByte}, "a": {At: 0, Code: api.ErrByte}, "\x00": {At: 0, Code: api.ErrByte}, "\xff": {At: 0, Code: api.ErrByte}, " 0()": {At: 0, Code: api.ErrByte},
		"0( )": {At: 2, Code: api.ErrByte}, "0( x31)": {At: 2, Code: api.ErrByte}, "0(,)": {At: 2, Code: api.ErrByte}, "0(()": {At: 2, Code: api.ErrByte}, "0(x31 )": {At: 6, Code: api.ErrByte}, "0(x31  x32)": {At: 6, Code: api.ErrByte}, "0(x31 ,": {At: 6, Code: api.ErrByte},
		// behind a number, and behind a kid
		"0)": {At: 1, Code: api.ErrByte}, "0 ()": {At: 1, Code: api.ErrByte}, "0x31": {At: 1, Code: api.ErrByte}, "12a": {At: 2, Code: api.ErrByte}, "0[": {At: 1, Code: api.ErrByte}, "0:": {At: 1, Code: api.ErrByte}, "0/": {At: 1, Code: api.ErrByte},
		"0(x31x32)": {At: 5, Code: api.ErrByte}, "0(x31,x32)": {At: 5, Code: api.ErrByte}, "0(1()2())": {At: 5, Code: api.ErrByte}, "0(x31\tx32)": {At: 5, Code: api.ErrByte}, "0(x31\nx32)": {At: 5, Code: api.ErrByte}, "0(x311)": {At: 5, Code: api.ErrByte}, "0(x31(": {At: 5, Code: api.ErrByte},
		// hexadecimal digits
		"x4A": {At: 2, Code: api.ErrByte}, "xA4": {At: 1, Code: api.ErrByte}, "xF": {At: 1, Code: api.ErrByte}, "xfF": {At: 2, Code: api.ErrByte}, "xg0": {At: 1, Code: api.ErrByte}, "x0g": {At: 2, Code: api.ErrByte}, "x/0": {At: 1, Code: api.ErrByte}, "x:0": {At: 1, Code: api.ErrByte}, "x`0": {At: 1, Code: api.ErrByte}, "x 0": {At: 1, Code: api.ErrByte}, "xx31": {At: 1, Code: api.ErrByte}, "x3(": {At: 2, Code: api.ErrByte}, "0(x3 x31)": {At: 4, Code: api.ErrByte}, "0(x)": {At: 3, Code: api.ErrByte}, "0(x3)": {At: 4, Code: api.ErrByte},
		// a number with a 0 ahead, or with a seventh digit
		"00()": {At: 1, Code: api.ErrByte}, "01()": {At: 1, Code: api.ErrByte}, "007()": {At: 1, Code: api.ErrByte}, "000000()": {At: 1, Code: api.ErrByte}, "00": {At: 1, Code: api.ErrByte}, "0(01())": {At: 3, Code: api.ErrByte}, "0(x31 05()": {At: 7, Code: api.ErrByte},
		"1234567()": {At: 6, Code: api.ErrByte}, "1000000()": {At: 6, Code: api.ErrByte}, "1234567": {At: 6, Code: api.ErrByte}, "12345678901234567890()": {At: 6, Code: api.ErrByte}, "0(1234567())": {At: 8, Code: api.ErrByte}, "0000000()": {At: 1, Code: api.ErrByte},
		// a rest
		"x311": {At: 3, Code: api.ErrRest}, "x31x32": {At: 3, Code: api.ErrRest}, "x31 x32": {At: 3, Code: api.ErrRest}, "x31 ": {At: 3, Code: api.ErrRest}, "x31(": {At: 3, Code: api.ErrRest}, "3() ": {At: 3, Code: api.ErrRest}, "3())": {At: 3, Code: api.ErrRest}, "3()\x00": {At: 3, Code: api.ErrRest}, "3()3()": {At: 3, Code: api.ErrRest}, "3()07": {At: 3, Code: api.ErrRest}, "3()?": {At: 3, Code: api.ErrRest},
		// the first one from the left
		"0(x4A 01(": {At: 4, Code: api.ErrByte}, "0(01() x4A": {At: 3, Code: api.ErrByte}, "0(x31 )()": {At: 6, Code: api.ErrByte}, "0()01()": {At: 3, Code: api.ErrRest},
	} {
		if tree, fault := Parse(text); fault != want || !Same(tree, api.Tree{}) {
			t.Errorf("%q: %s %v, not %v", text, all(tree), fault, want)
		}
	}
}

func FuzzParse(f *testing.F) {
	for _, text := range []string{"", "0(x31 x2b 1(x32))", "3()", "x4A", "0(01()", "1234567()", "x31 "} {
		f.Add(text)
	}
	f.Fuzz(func(t *testing.T, text string) {
		tree, fault := Parse(text)
		if fault != (api.Fault{}) {
			if fault.At < 0 || fault.At > len(text) || fault.Code == api.OK || !Same(tree, api.Tree{}) {
				t.Fatalf("%q: %v", text, fault)
			}
			return
		}
		if again, code := Print(tree); again != text || code != api.OK {
			t.Fatalf("%q: %q %d", text, again, code)
		}
	})
}
