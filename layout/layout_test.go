package layout

import (
	"math"
	"reflect"
	"slices"
	"strconv"
	"strings"
	"testing"

	"tracery/api"
)

func txt(s string) api.Doc            { return api.Doc{Kind: api.DText, Text: s} }
func lin(s string) api.Doc            { return api.Doc{Kind: api.DLine, Text: s} }
func hrd() api.Doc                    { return api.Doc{Kind: api.DHard} }
func grp(kids ...api.Doc) api.Doc     { return api.Doc{Kind: api.DGroup, Kids: kids} }
func cat(kids ...api.Doc) api.Doc     { return api.Doc{Kind: api.DCat, Kids: kids} }
func in(n int, k ...api.Doc) api.Doc  { return api.Doc{Kind: api.DNest, N: n, Kids: k} }
func with(d api.Doc, n int) api.Doc   { d.N = n; return d }
func has(d api.Doc, s string) api.Doc { d.Text = s; return d }

// tower is a document within so many of that kind.
func tower(kind, n int, d api.Doc) api.Doc {
	for range n {
		d = api.Doc{Kind: kind, Kids: []api.Doc{d}}
	}
	return d
}

// told is a document in a row of letters.
func told(d api.Doc) string {
	text := strconv.Itoa(d.Kind) + strconv.Quote(d.Text) + strconv.Itoa(d.N) + "("
	for _, kid := range d.Kids {
		text += told(kid)
	}
	return text + ")"
}

// The chapter's examples.
func TestExamples(t *testing.T) {
	a := grp(txt("a"), lin(" "), txt("b"))
	f := grp(txt("f("), in(2, lin(""), txt("x")), txt(")"))
	for _, c := range []struct {
		d     api.Doc
		width int
		want  string
	}{{a, 3, "a b"}, {a, 2, "a\nb"}, {f, 3, "f(\n  x)"}, {f, 4, "f(x)"}} {
		if have, code := Render(c.d, c.width); have != c.want || code != api.OK {
			t.Errorf("in %d: %q %d, not %q", c.width, have, code, c.want)
		}
	}
}

// P14.1: documents of each kind, with each field.
func TestRight(t *testing.T) {
	for kind := -2; kind < 10; kind++ {
		d := api.Doc{Kind: kind}
		isLeaf := kind == api.DText || kind == api.DLine
		isBranch := kind == api.DNest || kind == api.DGroup || kind == api.DCat
		for _, c := range []struct {
			name string
			d    api.Doc
			want bool
		}{
			{"alone", d, isLeaf || isBranch || kind == api.DHard},
			{"text", has(d, "x"), isLeaf}, {"blanks", has(d, " \t\r\v\x00\xff"), isLeaf}, {"break", has(d, "\n"), false}, {"break within", has(d, "a\nb"), false}, {"break behind", has(d, "ab\n"), false},
			{"N -1", with(d, -1), false}, {"N 1", with(d, 1), kind == api.DNest}, {"N 1000", with(d, 1000), kind == api.DNest}, {"N 1001", with(d, 1001), false}, {"N least", with(d, math.MinInt), false}, {"N most", with(d, math.MaxInt), false},
			{"empty kids", api.Doc{Kind: kind, Kids: []api.Doc{}}, isLeaf || isBranch || kind == api.DHard},
			{"a kid", api.Doc{Kind: kind, Kids: []api.Doc{txt("")}}, isBranch}, {"kids", api.Doc{Kind: kind, Kids: []api.Doc{txt("a"), lin(""), hrd(), grp(), cat(), in(3)}}, isBranch},
			{"a wrong kid", api.Doc{Kind: kind, Kids: []api.Doc{txt("a"), {}}}, false}, {"a wrong kid within", api.Doc{Kind: kind, Kids: []api.Doc{cat(grp(in(1, txt("a"), with(txt("b"), 1)))), txt("c")}}, false},
			{"text and kids", api.Doc{Kind: kind, Text: "a", Kids: []api.Doc{txt("b")}}, false}, {"N and text", api.Doc{Kind: kind, N: 1, Text: "a"}, false},
		} {
			if have := Right(c.d); have != c.want {
				t.Errorf("kind %d, %s: %v", kind, c.name, have)
			}
			answersDoc(t, c.d, c.want)
		}
	}
}

// answersDoc looks whether all calls tell ErrDoc just of a document that is not right.
func answersDoc(t *testing.T, d api.Doc, right bool) {
	t.Helper()
	text, code := Flat(d)
	if right == (code == api.ErrDoc) || code != api.OK && text != "" {
		t.Errorf("Flat: %q %d", text, code)
	}
	for _, width := range []int{math.MinInt, 0, 4, math.MaxInt} {
		text, a := Render(d, width)
		n, b := Broken(d, width)
		if right == (a == api.ErrDoc) || a != b || a != api.OK && (text != "" || n != 0) {
			t.Errorf("in %d: %q %d, %d %d", width, text, a, n, b)
		}
	}
}

// P14.1: documents just as deep as they may be, and deeper by one.
func TestDepth(t *testing.T) {
	for _, kind := range []int{api.DNest, api.DGroup, api.DCat} {
		for _, last := range []api.Doc{txt("a"), lin(" "), hrd(), in(1), grp(), cat(), txt("")} {
			for _, n := range []int{0, 1, api.MaxNest - 2, api.MaxNest - 1, api.MaxNest, api.MaxNest + 1, 1 << 16, 1 << 20} {
				d := tower(kind, n, last)
				right := n < api.MaxNest
				for _, d := range []api.Doc{d, cat(txt("a"), d, txt("b")), grp(d, tower(kind, 3, txt("")))} {
					if Right(d) != right {
						t.Errorf("%d of %d: %v", n, kind, !right)
					}
					answersDoc(t, d, right)
					right = n < api.MaxNest-1
				}
			}
		}
	}
	if d := tower(api.DCat, api.MaxNest-2, cat(cat(), cat(), cat(txt("")))); Right(d) {
		t.Error("the deepest kid is not the first")
	}
}

// P14.1: documents of as many documents as they may have, and of one more.
func TestParts(t *testing.T) {
	for _, kind := range []int{api.DNest, api.DGroup, api.DCat} {
		for _, kid := range []api.Doc{txt(""), lin(" "), grp(), cat(txt(""), txt("")), tower(api.DGroup, 6, txt("x"))} {
			own := strings.Count(told(kid), "(")
			n := (maxParts - 1) / own
			rest := maxParts - 1 - n*own
			d := api.Doc{Kind: kind, Kids: append(slices.Repeat([]api.Doc{kid}, n), slices.Repeat([]api.Doc{txt("")}, rest)...)}
			if !Right(d) {
				t.Errorf("%d documents of kind %d are too many", maxParts, kind)
			}
			answersDoc(t, d, true)
			d.Kids = append(d.Kids, txt(""))
			if Right(d) {
				t.Errorf("%d documents of kind %d are not too many", maxParts+1, kind)
			}
			answersDoc(t, d, false)
		}
	}
	if maxParts != 20000 {
		t.Error(maxParts)
	}
}

// P1: documents whose parts share memory, so that they are very many, or lie in themselves.
func TestSharedParts(t *testing.T) {
	d := cat()
	for range api.MaxNest - 1 {
		d = cat(d, d)
	}
	ring := []api.Doc{{Kind: api.DCat}, {Kind: api.DGroup}}
	ring[0].Kids, ring[1].Kids = ring, ring
	self := []api.Doc{{Kind: api.DNest, N: 1}}
	self[0].Kids = self
	for i, d := range []api.Doc{d, ring[0], ring[1], self[0], cat(txt("a"), ring[0]), {Kind: api.DText, Kids: ring}, {Kids: self}} {
		if Right(d) {
			t.Errorf("document %d is right", i)
		}
		answersDoc(t, d, false)
	}
}

// P14.1: the leaves of any document, without Kids.
func TestLeaves(t *testing.T) {
	for i, c := range []struct {
		d    api.Doc
		want []api.Doc
	}{
		{txt("a"), []api.Doc{txt("a")}}, {lin(" "), []api.Doc{lin(" ")}}, {hrd(), []api.Doc{hrd()}}, {txt(""), []api.Doc{txt("")}},
		{cat(), nil}, {grp(), nil}, {in(3), nil}, {cat(grp(), in(1, cat())), nil}, {api.Doc{}, nil},
		{cat(txt("a"), lin("b"), hrd(), txt("")), []api.Doc{txt("a"), lin("b"), hrd(), txt("")}},
		{cat(grp(in(2, txt("a"), grp(lin("b"))), hrd()), in(1, txt("c"), cat(txt("d"))), txt("a")), []api.Doc{txt("a"), lin("b"), hrd(), txt("c"), txt("d"), txt("a")}},
		// documents that are not right
		{txt("a\nb"), []api.Doc{txt("a\nb")}}, {api.Doc{Kind: 9, Kids: []api.Doc{txt("a"), {Kind: -1, Text: "x", Kids: []api.Doc{hrd()}}}}, []api.Doc{txt("a"), hrd()}}, {api.Doc{Text: "a", Kids: []api.Doc{{}, lin("")}}, []api.Doc{lin("")}}, {api.Doc{Kind: 7, Text: "a"}, nil},
		{in(-5, in(1001, txt("a"))), []api.Doc{txt("a")}}, {has(with(cat(lin("a")), 4), "x"), []api.Doc{lin("a")}},
		{with(txt("a"), 3), []api.Doc{with(txt("a"), 3)}}, {has(hrd(), "x"), []api.Doc{has(hrd(), "x")}},
		{api.Doc{Kind: api.DText, Text: "a", Kids: []api.Doc{txt("b"), cat(hrd())}}, []api.Doc{txt("a"), txt("b"), hrd()}},
		{cat(api.Doc{Kind: api.DLine, Kids: []api.Doc{{Kind: api.DHard, Kids: []api.Doc{txt("b")}}}}, txt("c")), []api.Doc{lin(""), hrd(), txt("b"), txt("c")}},
		{tower(api.DCat, api.MaxNest+9, txt("a")), []api.Doc{txt("a")}}, {tower(api.DGroup, 1<<20, lin("a")), []api.Doc{lin("a")}}, {tower(9, 1<<16, hrd()), []api.Doc{hrd()}},
	} {
		have := Leaves(c.d)
		if len(have) != len(c.want) || len(have) > 0 && !reflect.DeepEqual(have, c.want) {
			t.Errorf("document %d: %v, not %v", i, have, c.want)
		}
	}
	many := cat(slices.Repeat([]api.Doc{txt("a"), cat(lin("b"))}, maxParts)...)
	if have := Leaves(many); len(have) != 2*maxParts || have[0].Text != "a" || have[2*maxParts-1].Text != "b" {
		t.Errorf("%d leaves", len(have))
	}
}

// P14.1: flat texts.
func TestFlat(t *testing.T) {
	for i, c := range []struct {
		d    api.Doc
		want string
		code api.Errno
	}{
		{txt("a"), "a", api.OK}, {lin("b"), "b", api.OK}, {txt(""), "", api.OK}, {cat(), "", api.OK}, {grp(), "", api.OK}, {in(1000), "", api.OK}, {hrd(), "", api.ErrNone},
		{cat(txt("a"), in(4, lin(" "), txt("b")), grp(lin(""), txt("c"), in(1, lin("--")))), "a bc--", api.OK}, {grp(in(7, grp(lin("x"), cat(lin("y"))), txt("z"))), "xyz", api.OK},
		{cat(hrd(), txt("a")), "", api.ErrNone}, {cat(txt("a"), grp(in(1, hrd()))), "", api.ErrNone}, {cat(hrd(), txt("\n")), "", api.ErrDoc}, {cat(txt("\n"), hrd()), "", api.ErrDoc}, {cat(hrd(), api.Doc{}), "", api.ErrDoc},
		{txt(strings.Repeat("a", 3*api.MaxText)), strings.Repeat("a", 3*api.MaxText), api.OK}, // no bound is named
	} {
		if have, code := Flat(c.d); have != c.want || code != c.code {
			t.Errorf("document %d: %.60q %d, not %.60q %d", i, have, code, c.want, c.code)
		}
	}
}
