package ast

import (
	"tracery/api"
	"tracery/check"
	"tracery/kernel"
)

// language is a definition's grammar, and what is looked up in the definition.
type language struct {
	kern     api.Kern
	lexical  map[string]int // the lexical sorts, each by its place among them
	cons     map[string]int // of each constructor the place of its production
	holes    [][]int        // of each production the places of its holes
	literals []string       // of each production the bytes of its literals
}

// newLanguage gives up, if kernel.Make refuses the definition: what check.Check finds wrong. Its chains are left out then: no term hangs on them, and of what they ban there may be many millions.
func newLanguage(d api.Def) language {
	code, _ := check.Check(d)
	need(code == api.OK, api.ErrDef)
	d.Chains = nil
	kern, _ := kernel.Make(d)
	l := language{kern: kern, lexical: map[string]int{}, cons: map[string]int{}}
	for i, sort := range check.Lexical(d) {
		l.lexical[sort] = i
	}
	for i, p := range d.Prods {
		if !p.Lex && !p.Bracket {
			l.cons[p.Cons] = i
		}
		l.holes = append(l.holes, check.Holes(p))
		l.literals = append(l.literals, literalsOf(p))
	}
	return l
}

// literalsOf is the bytes of a production's literals, one behind the other.
func literalsOf(p api.Prod) string {
	text := ""
	for _, s := range p.Syms {
		text += s.Text // no other symbol has a Text
	}
	return text
}

// prod is a production by its place.
func (l *language) prod(place int) api.Prod { return l.kern.Def.Prods[place] }

// origin is where the rule of a node comes from.
func (l *language) origin(node *api.Tree) api.Origin { return l.kern.From[node.Rule] }

// needTerm gives up, if a right term is none of a sort; it calls itself no deeper than MaxNest.
func (l *language) needTerm(sort string, t api.Term) {
	if _, is := l.lexical[sort]; is {
		need(t.Kind == api.TLex, api.ErrSort)
		return
	}
	place, is := l.cons[t.Cons]
	need(is && l.prod(place).Sort == sort, api.ErrSort) // no term but a TApp has a Cons
	holes := l.holes[place]
	need(len(t.Kids) == len(holes), api.ErrSort)
	for i, hole := range holes {
		s := l.prod(place).Syms[hole]
		need(isIn(s, t.Kids[i]), api.ErrSort)
		for _, part := range standing(s, t.Kids[i]) {
			l.needTerm(s.Name, part)
		}
	}
}

// isIn tells whether a term is of the kind that stands in a hole; what lies in it is not asked.
func isIn(hole api.Sym, t api.Term) bool {
	switch hole.Kind {
	case api.SOpt:
		return t.Kind == api.TNone || t.Kind == api.TSome
	case api.SStar:
		return t.Kind == api.TList
	case api.SPlus:
		return t.Kind == api.TList && len(t.Kids) > 0
	}
	return true
}

// standing is the terms of a hole's sort that a term in it stands for: none, where the hole is left out.
func standing(hole api.Sym, t api.Term) []api.Term {
	if hole.Kind == api.SSort {
		return []api.Term{t}
	}
	return t.Kids
}
