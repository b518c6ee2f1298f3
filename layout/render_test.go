package layout

import (
	"math"
	"slices"
	"strings"
	"testing"

	"tracery/api"
)

// P14.2: what is written, and how many groups are broken.
func TestRender(t *testing.T) {
	ab := []api.Doc{txt("a"), lin(" "), txt("b")}
	args := func(n int) api.Doc {
		d := grp(txt("("), in(1, txt("1")))
		for range n {
			d.Kids[1].Kids = append(d.Kids[1].Kids, txt(","), lin(" "), txt("2"))
		}
		d.Kids = append(d.Kids, txt(")"))
		return d
	}
	for i, c := range []struct {
		d      api.Doc
		width  int
		want   string
		broken int
	}{
		// nothing, and texts alone
		{cat(), 0, "", 0}, {in(9), 0, "", 0}, {txt(""), 0, "", 0}, {txt("abc"), 0, "abc", 0}, {cat(txt("ab"), in(3, txt("cd"))), 2, "abcd", 0}, {txt(" a\t\x00\xff"), 1, " a\t\x00\xff", 0},
		// lines outside of all groups
		{lin(" "), 80, "\n", 0}, {lin("x"), math.MaxInt, "\n", 0}, {hrd(), 80, "\n", 0}, {cat(ab...), 80, "a\nb", 0}, {in(2, ab...), 80, "a\n  b", 0}, {in(2, in(3, ab...), cat(lin("x")), in(1, hrd())), 80, "a\n     b\n  \n   ", 0}, {in(1000, lin("")), 0, "\n" + strings.Repeat(" ", 1000), 0}, {in(0, lin("")), 0, "\n", 0},
		// a group, in just what it needs and in one less
		{grp(ab...), 3, "a b", 0}, {grp(ab...), 2, "a\nb", 1}, {grp(ab...), math.MaxInt, "a b", 0}, {grp(ab...), 0, "a\nb", 1}, {grp(ab...), -1, "a\nb", 1}, {grp(ab...), math.MinInt, "a\nb", 1}, {cat(txt("xy"), grp(ab...)), 5, "xya b", 0}, {cat(txt("xy"), grp(ab...)), 4, "xya\nb", 1}, {cat(txt("xy"), hrd(), grp(ab...)), 3, "xy\na b", 0}, {in(2, hrd(), grp(ab...)), 5, "\n  a b", 0}, {in(2, hrd(), grp(ab...)), 4, "\n  a\n  b", 1},
		// groups without bytes, and a width of 0 and below
		{grp(), 0, "", 0}, {grp(), -1, "", 0}, {grp(lin("")), 0, "", 0}, {grp(lin("")), math.MinInt, "", 0}, {grp(lin(" ")), 0, "\n", 1}, {cat(txt("a"), grp()), 0, "a", 1}, {cat(txt("a"), grp()), 1, "a", 0}, {cat(grp(), txt("a")), 0, "a", 1}, {cat(grp(), txt("a")), 1, "a", 0}, {cat(grp(), lin(""), txt("a")), 0, "\na", 0}, {cat(txt("ab"), grp(lin(""))), 1, "ab\n", 1},
		// a group with a DHard in it
		{grp(hrd()), 80, "\n", 1}, {grp(txt("a"), hrd(), txt("b")), 80, "a\nb", 1}, {grp(txt("a"), lin(" "), in(2, hrd()), txt("b")), 80, "a\n\n  b", 1}, {grp(txt("a"), lin(" "), cat(grp(txt("b"), lin(" "), grp(hrd())))), 80, "a\nb\n\n", 3}, {grp(grp(ab...), lin(" "), grp(hrd(), lin(" ")), grp(ab...)), 80, "a b\n\n\na b", 2}, {cat(grp(ab...), hrd()), 80, "a b\n", 0},
		// groups in flat groups, and in broken ones
		{grp(grp(ab...), lin(" "), grp(ab...)), 7, "a b a b", 0}, {grp(grp(ab...), lin(" "), grp(ab...)), 6, "a b\na b", 1}, {grp(grp(ab...), lin(" "), grp(ab...)), 3, "a b\na b", 1}, {grp(grp(ab...), lin(" "), grp(ab...)), 2, "a\nb\na\nb", 3}, {grp(grp(grp(grp(ab...)))), 2, "a\nb", 4}, {grp(grp(grp(grp(ab...)))), 3, "a b", 0}, {grp(txt("xxxx"), lin(" "), grp(ab...), lin(" "), txt("yyyy")), 4, "xxxx\na b\nyyyy", 1},
		// text behind a group, up to the next line, also outside of the group
		{cat(grp(ab...), txt("c")), 4, "a bc", 0}, {cat(grp(ab...), txt("c")), 3, "a\nbc", 1}, {cat(grp(ab...), in(1, txt("c"), cat(txt("d")))), 4, "a\nbcd", 1}, {cat(grp(ab...), in(1, txt("c"), cat(txt("d")))), 5, "a bcd", 0}, {cat(grp(ab...), txt("c"), lin(" "), txt("defg")), 4, "a bc\ndefg", 0}, {cat(grp(ab...), txt("c"), hrd(), txt("defg")), 4, "a bc\ndefg", 0}, {cat(grp(ab...), txt("c"), hrd(), txt("defg")), 3, "a\nbc\ndefg", 1},
		{cat(grp(ab...), grp(txt("c"), lin("xxxx"), txt("d"))), 4, "a bc\nd", 1}, {cat(grp(ab...), grp(txt("c"), lin("xxxx"), txt("d"))), 3, "a\nbc\nd", 2}, {cat(grp(ab...), grp(txt("cc"), in(1, hrd()))), 4, "a\nbcc\n ", 2}, {cat(grp(ab...), grp(txt("cc"), in(1, hrd()))), 5, "a bcc\n ", 1},
		{grp(txt("xx"), lin(" "), grp(ab...), txt("yy"), lin(" "), txt("z")), 5, "xx\na byy\nz", 1}, {grp(txt("xx"), lin(" "), grp(ab...), txt("yy"), lin(" "), txt("z")), 4, "xx\na\nbyy\nz", 2}, {cat(grp(grp(grp(ab...), txt("1")), txt("2")), txt("3")), 6, "a b123", 0}, {cat(grp(grp(grp(ab...), txt("1")), txt("2")), txt("3")), 5, "a\nb123", 3},
		// the column, not the line's beginning, and what a line of a flat group writes
		{cat(txt("aaaa"), grp(lin("--"), txt("b")), grp(lin(""), txt("c"))), 8, "aaaa--bc", 0}, {cat(txt("aaaa"), grp(lin("--"), txt("b")), grp(lin(""), txt("c"))), 7, "aaaa--b\nc", 1}, {cat(txt("aaaa"), grp(lin("--"), txt("b")), grp(lin(""), txt("c"))), 6, "aaaa\nbc", 1}, {cat(txt("aaaa"), grp(lin("--"), txt("b")), grp(lin(""), txt("c"))), 1, "aaaa\nb\nc", 2},
		{args(0), 3, "(1)", 0}, {args(2), 9, "(1, 2, 2)", 0}, {args(2), 8, "(1,\n 2,\n 2)", 1}, {in(2, txt("f"), args(1)), 7, "f(1, 2)", 0}, {in(2, txt("f"), args(1)), 6, "f(1,\n   2)", 1},
	} {
		have, code := Render(c.d, c.width)
		n, e := Broken(c.d, c.width)
		if have != c.want || n != c.broken || code != api.OK || e != api.OK {
			t.Errorf("document %d in %d: %q %d, %d %d, not %q, %d", i, c.width, have, code, n, e, c.want, c.broken)
		}
	}
}

// P14.2: texts of as many bytes as may be written, and of one more.
func TestMaxText(t *testing.T) {
	a := func(n int) string { return strings.Repeat("a", n) }
	half := api.MaxText / 2
	for i, c := range []struct {
		d     api.Doc
		width int
		bytes int // 0: too many
	}{
		{txt(a(api.MaxText)), 0, api.MaxText}, {txt(a(api.MaxText + 1)), 0, 0}, {txt(a(api.MaxText)), math.MaxInt, api.MaxText}, {txt(a(99 * api.MaxText)), 5, 0},
		{cat(txt(a(half)), txt(a(half))), 0, api.MaxText}, {cat(txt(a(half)), txt(a(half)), txt("")), 0, api.MaxText}, {cat(txt(a(half)), txt(a(half)), txt("a")), 0, 0}, {cat(txt(a(half+1)), txt(a(half)), txt("")), 0, 0}, {cat(txt(a(api.MaxText+1)), hrd(), txt("a")), 0, 0},
		// breaks and blanks count
		{cat(txt(a(api.MaxText-1)), hrd()), 0, api.MaxText}, {cat(txt(a(api.MaxText)), hrd()), 0, 0}, {cat(txt(a(api.MaxText)), lin("")), 0, 0}, {in(3, txt(a(api.MaxText-4)), lin("")), 0, api.MaxText}, {in(3, txt(a(api.MaxText-3)), lin("")), 0, 0}, {in(1000, slices.Repeat([]api.Doc{hrd()}, 65)...), 0, 65 * 1001}, {in(1000, slices.Repeat([]api.Doc{hrd()}, 66)...), 0, 0},
		// what a group writes hangs on the width
		{grp(lin(a(api.MaxText))), api.MaxText, api.MaxText}, {grp(lin(a(api.MaxText + 1))), api.MaxText, 1}, {grp(lin(a(api.MaxText + 1))), api.MaxText + 1, 0}, {grp(lin(a(9 * api.MaxText))), 9*api.MaxText - 1, 1}, {grp(lin(a(9 * api.MaxText))), 9 * api.MaxText, 0}, {grp(lin(a(9 * api.MaxText))), math.MaxInt, 0},
		{grp(txt(a(half)), lin(""), txt(a(half))), api.MaxText, api.MaxText}, {grp(txt(a(half)), lin(""), txt(a(half))), api.MaxText - 1, 0}, {grp(txt(a(half)), in(9, lin(""), txt(a(half-10)))), 0, api.MaxText}, {grp(txt(a(half)), in(9, lin(""), txt(a(half-9)))), 0, 0}, {grp(txt(a(half)), in(9, lin(""), txt(a(half-9)))), api.MaxText, api.MaxText - 9},
	} {
		text, code := Render(c.d, c.width)
		n, e := Broken(c.d, c.width)
		want := api.OK
		if c.bytes == 0 {
			want = api.ErrLong
		}
		if code != want || e != want || len(text) != c.bytes || want != api.OK && n != 0 {
			t.Errorf("document %d: %d bytes %d, %d %d", i, len(text), code, n, e)
		}
	}
	// a document that is not right is told ahead of one that is too long
	long := txt(a(api.MaxText + 1))
	for _, d := range []api.Doc{cat(long, api.Doc{}), cat(api.Doc{}, long), with(long, 1), cat(long, txt("\n"))} {
		text, code := Render(d, 9)
		if n, e := Broken(d, 9); code != api.ErrDoc || e != api.ErrDoc || text != "" || n != 0 {
			t.Errorf("%d %d", code, e)
		}
	}
}

// P14.2: documents as deep as may be, whose lines go in very far.
func TestFarIn(t *testing.T) {
	d := lin("x")
	for range api.MaxNest - 1 {
		d = in(1000, d)
	}
	if text, code := Render(d, 0); text != "" || code != api.ErrLong {
		t.Errorf("%d bytes, %d", len(text), code)
	}
	d = lin("x")
	for range api.MaxNest - 1 {
		d = in(300, d)
	}
	if text, code := Render(d, 0); text != "\n"+strings.Repeat(" ", 300*(api.MaxNest-1)) || code != api.OK {
		t.Errorf("%d bytes, %d", len(text), code)
	}
	if text, code := Render(tower(api.DGroup, api.MaxNest-2, in(1000, d.Kids[0].Kids[0].Kids[0])), 1); code != api.ErrDoc || text != "" {
		t.Errorf("%d bytes, %d", len(text), code)
	}
}

// Documents of very many groups, and of great texts that are met often, are answered soon.
func TestGreat(t *testing.T) {
	empty := slices.Repeat([]api.Doc{grp()}, maxParts-1)
	if n, code := Broken(cat(empty...), 0); n != 0 || code != api.OK {
		t.Errorf("%d %d", n, code)
	}
	empty[len(empty)-1] = txt("a")
	for range 20 {
		if n, code := Broken(cat(empty...), 0); n != maxParts-2 || code != api.OK {
			t.Errorf("%d %d", n, code)
		}
	}
	deep := cat()
	for range (maxParts - 2) / api.MaxNest {
		deep.Kids = append(deep.Kids, tower(api.DGroup, api.MaxNest-2, lin("ab")))
	}
	for range 20 {
		if n, code := Broken(deep, 1); n != len(deep.Kids)*(api.MaxNest-2) || code != api.OK {
			t.Errorf("%d %d", n, code)
		}
	}
	great := strings.Repeat("a", 1<<20)
	same := slices.Repeat([]api.Doc{lin(great)}, 1000)
	if text, code := Render(grp(same...), 1000<<20-1); text != strings.Repeat("\n", 1000) || code != api.OK {
		t.Errorf("%d bytes, %d", len(text), code)
	}
	if text, code := Render(grp(same...), 1000<<20); text != "" || code != api.ErrLong {
		t.Errorf("%d bytes, %d", len(text), code)
	}
	if text, code := Flat(cat(append(same, hrd())...)); text != "" || code != api.ErrNone {
		t.Errorf("%d bytes, %d", len(text), code)
	}
}
