package ast

import (
	"tracery/api"
	"tracery/lexicon"
)

// choice is a production, and the mask that says which of its symbols are there.
type choice struct{ prod, mask int }

// filled is a hole that is not left out, and the terms that stand in it.
type filled struct {
	hole  api.Sym
	terms []api.Term
}

// exploder is a language whose rules can be found.
type exploder struct {
	language
	users     map[choice]int
	ones      map[int]int // of each list its rule of one part
	mores     map[int]int // of each list its rule of several
	gap, none int         // the gap's nonterminal, -1, if there is none; its rule of nothing
	lexicon   lexicon.Lexicon
}

func newExploder(l language) *exploder {
	e := &exploder{language: l, users: map[choice]int{}, ones: map[int]int{}, mores: map[int]int{}, gap: -1, lexicon: lexicon.New(l.kern.Gram)}
	for rule, from := range l.kern.From {
		nt := l.kern.Gram.Rules[rule].Lhs
		switch from.Kind {
		case api.OUser:
			e.users[choice{from.Prod, from.Mask}] = rule
		case api.OOne:
			e.ones[nt] = rule
		case api.OMore:
			e.mores[nt] = rule
		case api.OGapNone:
			e.gap, e.none = nt, rule
		}
	}
	return e
}

// tree is the plain tree of a term of a sort; it calls itself no deeper than MaxNest.
func (e *exploder) tree(nt int, t api.Term) api.Tree {
	if t.Kind == api.TLex {
		first, is := e.lexicon.First(nt, t.Text)
		need(is, api.ErrLex)
		return first
	}
	place := e.cons[t.Cons]
	mask, full := e.fill(place, t.Kids)
	return e.node(e.users[choice{place, mask}], e.literals[place], func(nt int) api.Tree {
		next := full[0]
		full = full[1:]
		if next.hole.Kind == api.SStar || next.hole.Kind == api.SPlus {
			return e.list(nt, next)
		}
		return e.tree(nt, next.terms[0])
	})
}

// fill is the holes of a production that are not left out, and the mask that leaves out the others.
func (e *exploder) fill(place int, kids []api.Term) (int, []filled) {
	mask, bit := 0, 1
	var full []filled
	for i, hole := range e.holes[place] {
		s := e.prod(place).Syms[hole]
		terms := standing(s, kids[i])
		if len(terms) > 0 {
			full = append(full, filled{s, terms})
		}
		if s.Kind == api.SOpt || s.Kind == api.SStar {
			if len(terms) > 0 {
				mask |= bit
			}
			bit <<= 1
		}
	}
	return mask, full
}

// list is the plain tree of a list's parts.
func (e *exploder) list(nt int, f filled) api.Tree {
	var tree api.Tree
	rule := e.ones[nt]
	for _, part := range f.terms {
		tree = e.node(rule, f.hole.Sep, func(kid int) api.Tree {
			if kid == nt {
				return tree
			}
			return e.tree(kid, part)
		})
		rule = e.mores[nt]
	}
	return tree
}

// node is a node of a rule with these literals, its gaps empty; a call tells the kid of each other nonterminal, from the left.
func (e *exploder) node(rule int, literals string, kid func(nt int) api.Tree) api.Tree {
	rhs := e.kern.Gram.Rules[rule].Rhs
	kids := make([]api.Tree, len(rhs))
	for i, s := range rhs {
		switch s.Nt {
		case -1:
			kids[i] = api.Tree{Rule: -1, Byte: literals[0]}
			literals = literals[1:]
		case e.gap:
			kids[i] = api.Tree{Rule: e.none}
		default:
			kids[i] = kid(s.Nt)
		}
	}
	return api.Tree{Rule: rule, Kids: kids}
}
