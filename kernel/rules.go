package kernel

import (
	"slices"

	"tracery/api"
	"tracery/charset"
)

// addRules makes the rules, in their order.
func (m *maker) addRules() {
	for place, p := range m.def.Prods {
		m.addAlternatives(place, p)
	}
	for _, l := range m.order {
		m.addList(l)
	}
	gap := m.gapOf(false)
	if len(gap) > 0 {
		m.add(m.gap, nil, api.Origin{Kind: api.OGapNone})
		m.add(m.gap, []api.KSym{{Nt: m.gap}, {Nt: m.sorts[m.def.Layout]}}, api.Origin{Kind: api.OGapMore})
	}
	start := []api.KSym{{Nt: m.sorts[m.def.Start]}}
	m.add(m.top, slices.Concat(gap, start, gap), api.Origin{Kind: api.OTop})
}

func (m *maker) add(lhs int, rhs []api.KSym, from api.Origin) {
	m.rules = append(m.rules, api.Rule{Lhs: lhs, Rhs: rhs})
	m.from = append(m.from, from)
}

// addAlternatives makes the rules of a production, mask by mask.
func (m *maker) addAlternatives(place int, p api.Prod) {
	omit := 0
	for _, s := range p.Syms {
		if mayBeLeftOut(s) {
			omit++
		}
	}
	for mask := range 1 << omit {
		rhs, syms := m.alternative(p, mask)
		m.add(m.sorts[p.Sort], rhs, api.Origin{Kind: api.OUser, Prod: place, Mask: mask, Syms: syms})
	}
}

// alternative is the symbols of a production's rule, and of each the place of the symbol that it comes from.
func (m *maker) alternative(p api.Prod, mask int) ([]api.KSym, []int) {
	var rhs []api.KSym
	var syms []int
	put := func(from int, list []api.KSym) {
		for _, k := range list {
			rhs = append(rhs, k)
			syms = append(syms, from)
		}
	}
	for i, s := range p.Syms {
		if mayBeLeftOut(s) {
			there := mask & 1
			mask >>= 1
			if there == 0 {
				continue
			}
		}
		if len(rhs) > 0 {
			put(-1, m.gapOf(p.Lex))
		}
		put(i, m.own(p, s))
	}
	return rhs, syms
}

// own is a symbol's own.
func (m *maker) own(p api.Prod, s api.Sym) []api.KSym {
	switch {
	case s.Kind == api.SLit:
		return bytesOf(s.Text)
	case isList(s):
		return []api.KSym{{Nt: m.lists[listOf(p, s)]}}
	}
	return []api.KSym{m.part(s.Name, s.Set)}
}

// part is a sort's nonterminal, or a byte of the set where no sort is named.
func (m *maker) part(name string, set api.Set) api.KSym {
	if name == "" {
		return api.KSym{Nt: -1, Set: set}
	}
	return api.KSym{Nt: m.sorts[name]}
}

// bytesOf is a symbol for each byte of a text.
func bytesOf(text string) []api.KSym {
	var rhs []api.KSym
	for i := range len(text) {
		rhs = append(rhs, api.KSym{Nt: -1, Set: charset.Of(text[i])})
	}
	return rhs
}

// gapOf is what stands between two symbols: the gap, or nothing among lexical ones and where there is no Layout.
func (m *maker) gapOf(lex bool) []api.KSym {
	if lex || m.gap < 0 {
		return nil
	}
	return []api.KSym{{Nt: m.gap}}
}

// addList makes a list's two rules.
func (m *maker) addList(l listKey) {
	self := api.KSym{Nt: m.lists[l]}
	part := m.part(l.name, l.set)
	m.add(self.Nt, []api.KSym{part}, api.Origin{Kind: api.OOne})
	gap := m.gapOf(l.lex)
	more := append([]api.KSym{self}, gap...)
	if l.sep != "" {
		more = slices.Concat(more, bytesOf(l.sep), gap)
	}
	m.add(self.Nt, append(more, part), api.Origin{Kind: api.OMore})
}
