package kernel

import (
	"tracery/api"
	"tracery/charset"
	"tracery/check"
	"tracery/words"
)

// listKey is what two symbols have in common that are the same list.
type listKey struct {
	lex  bool
	name string
	set  api.Set
	sep  string
}

// maker is a definition, the numbers and names of its nonterminals, and the rules made so far with their origins.
type maker struct {
	def      api.Def
	sorts    map[string]int
	lists    map[listKey]int
	order    []listKey // the lists as they come first
	gap, top int       // the gap is -1 without a Layout
	names    []string
	rules    []api.Rule
	from     []api.Origin
}

// newMaker numbers the nonterminals of a definition that is right.
func newMaker(d api.Def) *maker {
	m := &maker{def: d, sorts: map[string]int{}, lists: map[listKey]int{}, gap: -1}
	for _, sort := range check.Sorts(d) {
		m.sorts[sort] = m.number(sort)
	}
	for _, p := range d.Prods {
		for _, s := range p.Syms {
			if isList(s) {
				m.meet(listOf(p, s))
			}
		}
	}
	if d.Layout != "" {
		m.gap = m.number("gap")
	}
	m.top = m.number("top")
	return m
}

// number is the next nonterminal, which gets that name.
func (m *maker) number(name string) int {
	m.names = append(m.names, name)
	return len(m.names) - 1
}

// meet numbers a list, unless it was met before.
func (m *maker) meet(l listKey) {
	if _, met := m.lists[l]; met {
		return
	}
	m.lists[l] = m.number(l.text())
	m.order = append(m.order, l)
}

func isList(s api.Sym) bool { return s.Kind == api.SStar || s.Kind == api.SPlus }

func mayBeLeftOut(s api.Sym) bool { return s.Kind == api.SOpt || s.Kind == api.SStar }

func listOf(p api.Prod, s api.Sym) listKey { return listKey{p.Lex, s.Name, s.Set, s.Sep} }

// text is a list's text as an SPlus.
func (l listKey) text() string {
	switch {
	case l.name == "":
		return charset.Print(l.set) + "+"
	case l.sep == "":
		return l.name + "+"
	}
	return "{" + l.name + " " + words.Quote([]byte(l.sep)) + "}+"
}
