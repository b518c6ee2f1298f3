package defs

import (
	"math/rand"
	"strings"
	"testing"

	"tracery/api"
	"tracery/charset"
)

func TestPrintLines(t *testing.T) {
	d := must(t, `box B=1 "a" _/nest 2(3 nest 0()) group(group(4)5);box C=;
		reject C D;follow E [ea-d];prio left F G>right H>non I>J;
		lex K.L=[a]?[]*"x\x00\""|M+{N",\n"}*{N ","}+[^a];cf O.P=O?O*O "" O;cf O="("O")"bracket;layout H;start I;`)
	want := `start I;
layout H;
lex K.L = [a]? []* "x\x00\"";
lex K.L = M+ {N ",\n"}* {N ","}+ [\x00-` + "`" + `b-\xff];
cf O.P = O? O* O "" O;
cf O = "(" O ")" bracket;
prio left F G > right H > non I > J;
follow E [a-e];
reject C D;
box B = 1 "a" _ / nest 2 ( 3 nest 0 ( ) ) group ( group ( 4 ) 5 );
box C =;
`
	if s, e := Print(d); e != api.OK || s != want {
		t.Errorf("Print = %v\n%s", e, s)
	}
	if s, e := Print(api.Def{}); e != api.OK || s != "" {
		t.Errorf("Print of nothing = %q %v", s, e)
	}
}

// Signs that stand in a text in quotes, or in a set, are no words.
func TestPrintSignsInTexts(t *testing.T) {
	for _, text := range []string{
		"lex A = \";\" \".\" \"?\" \"}\" \"{\" A;\n",
		"lex A = [;] [.] [?] [}] [{] [*]* [+];\n",
		"lex A = {A \".\"}* {A \"{\"}+ {A \"}\"}*;\n",
		"box A = \";\" \".\" \"{\" \"}\";\n",
	} {
		if s, e := Print(must(t, text)); e != api.OK || s != text {
			t.Errorf("Print(%q) = %q %v", text, s, e)
		}
	}
}

// padded is a definition whose text has so many bytes.
func padded(t *testing.T, size int) api.Def {
	t.Helper()
	const line = len("prio A;\n")
	var d api.Def
	last := size % line
	for range size/line - 1 {
		d.Chains = append(d.Chains, []api.Group{{Cons: []string{"A"}}})
	}
	return api.Def{Chains: append(d.Chains, []api.Group{{Cons: []string{"A" + repeat(last, "a")}}})}
}

func TestPrintLongest(t *testing.T) {
	for size := api.MaxText - 9; size <= api.MaxText; size++ {
		d := padded(t, size)
		s, e := Print(d)
		if e != api.OK || len(s) != size {
			t.Fatalf("%d bytes: %d %v", size, len(s), e)
		}
		if !Same(must(t, s), d) {
			t.Errorf("%d bytes: not read as they were written", size)
		}
	}
	for size := api.MaxText + 1; size < api.MaxText+20; size++ {
		d := padded(t, size)
		if s, e := Print(d); e != api.ErrLong || s != "" || !Right(d) {
			t.Errorf("%d bytes: %d %v %v", size, len(s), e, Right(d))
		}
	}
	wrong := padded(t, 2*api.MaxText)
	wrong.Boxes = []api.Box{{}}
	if s, e := Print(wrong); e != api.ErrForm || s != "" {
		t.Errorf("Print of what is long and not right = %d %v", len(s), e)
	}
}

// maker makes definitions by chance, always the same ones.
type maker struct{ *rand.Rand }

func (m maker) name() string {
	return string(rune('A'+m.Intn(26))) + strings.Repeat("b9Z", m.Intn(3))
}

func (m maker) text(least int) string {
	b := make([]byte, least+m.Intn(5))
	for i := range b {
		b[i] = byte(m.Intn(256))
	}
	return string(b)
}

func (m maker) set() api.Set {
	s := charset.Of([]byte(m.text(0))...)
	if m.Intn(3) == 0 {
		s = charset.Not(s)
	}
	return s
}

func (m maker) sym() api.Sym {
	switch kind := 1 + m.Intn(6); kind {
	case api.SLit:
		return lit(m.text(0))
	case api.SSet:
		return api.Sym{Kind: kind, Set: m.set()}
	case api.SSort:
		return sort(kind, m.name())
	case api.SOpt:
		if m.Intn(2) == 0 {
			return api.Sym{Kind: kind, Set: m.set()}
		}
		return sort(kind, m.name())
	default:
		switch m.Intn(3) {
		case 0:
			return api.Sym{Kind: kind, Set: m.set()}
		case 1:
			return sep(kind, m.name(), m.text(1))
		}
		return sort(kind, m.name())
	}
}

func (m maker) prod() api.Prod {
	p := api.Prod{Sort: m.name(), Lex: m.Intn(2) == 0}
	if p.Lex && m.Intn(2) == 0 || !p.Lex && m.Intn(3) > 0 {
		p.Cons = m.name()
	}
	p.Bracket = !p.Lex && p.Cons == ""
	for range 1 + m.Intn(4) {
		p.Syms = append(p.Syms, m.sym())
	}
	return p
}

func (m maker) items(depth int) []api.Item {
	var list []api.Item
	for range m.Intn(4) {
		i := api.Item{Kind: 1 + m.Intn(6)}
		switch i.Kind {
		case api.BText:
			i.Text = m.text(0)
		case api.BHole:
			i.N = m.Intn(1000000)
		case api.BNest, api.BGroup:
			if i.Kind == api.BNest {
				i.N = m.Intn(1000000)
			}
			if depth > 0 {
				i.Items = m.items(depth - 1)
			}
		}
		list = append(list, i)
	}
	return list
}

func (m maker) chain() []api.Group {
	var list []api.Group
	for range 1 + m.Intn(3) {
		g := api.Group{Assoc: m.Intn(4)}
		for range 1 + m.Intn(3) {
			g.Cons = append(g.Cons, m.name())
		}
		list = append(list, g)
	}
	return list
}

func (m maker) def() api.Def {
	var d api.Def
	if m.Intn(2) == 0 {
		d.Start = m.name()
	}
	if m.Intn(2) == 0 {
		d.Layout = m.name()
	}
	for range m.Intn(5) {
		d.Prods = append(d.Prods, m.prod())
	}
	for range m.Intn(3) {
		d.Chains = append(d.Chains, m.chain())
		d.Follows = append(d.Follows, api.Follow{Sort: m.name(), Set: m.set()})
	}
	for range m.Intn(3) {
		d.Rejects = append(d.Rejects, api.Reject{Sort: m.name(), By: m.name()})
		d.Boxes = append(d.Boxes, api.Box{Cons: m.name(), Items: m.items(3)})
	}
	return d
}

func TestThereAndBack(t *testing.T) {
	m := maker{rand.New(rand.NewSource(1))}
	texts := map[string]api.Def{}
	for range 3000 {
		d := m.def()
		s, e := Print(d)
		if !Right(d) || e != api.OK {
			t.Fatalf("%+v is not right: %v", d, e)
		}
		back := must(t, s)
		if !Same(d, back) || !Right(back) {
			t.Fatalf("%+v is read as %+v", d, back)
		}
		if again, _ := Print(back); again != s {
			t.Fatalf("%q is written as %q", s, again)
		}
		if other, met := texts[s]; met && !Same(d, other) {
			t.Fatalf("%+v and %+v have one text", d, other)
		}
		texts[s] = d
	}
	for a, d := range texts {
		for b, other := range texts {
			if (a == b) != Same(d, other) {
				t.Fatalf("Same of %q and %q", a, b)
			}
		}
		if len(a) > 40 {
			break
		}
	}
}

func FuzzParse(f *testing.F) {
	for _, c := range statements {
		f.Add(c.text)
	}
	f.Fuzz(func(t *testing.T, text string) {
		d, fault := Parse(text)
		if fault.Code != api.OK {
			if !Same(d, api.Def{}) || fault.At < 0 || fault.At > len(text) {
				t.Fatalf("Parse(%q) = %v %v", text, d, fault)
			}
			return
		}
		if fault != (api.Fault{}) || !Right(d) {
			t.Fatalf("Parse(%q) is not right: %v", text, fault)
		}
		s, e := Print(d)
		if e == api.ErrLong {
			return
		}
		if back, fault := Parse(s); e != api.OK || fault.Code != api.OK || !Same(d, back) {
			t.Fatalf("Parse(%q) is written as %q", text, s)
		}
	})
}
