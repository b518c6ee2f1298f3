// Package lexicon has the first trees of texts, as ast asks for those of lexemes and notes for those of gaps.
package lexicon

import (
	"slices"

	"tracery/api"
	"tracery/facts"
	"tracery/forest"
	"tracery/kin"
	"tracery/trees"
)

// entry is a text of a nonterminal.
type entry struct {
	nt   int
	text string
}

// Lexicon finds first trees. Those that were met are kept, since the same text is often asked for again.
type Lexicon struct {
	gram  api.Gram
	parts map[int]part
	met   map[entry]api.Tree
}

// part is the rules of a grammar that one nonterminal needs, with numbers of their own: a text is looked for soon among them, and slowly among thousands of others.
type part struct {
	gram  api.Gram
	rules []int // of each rule its place in the whole grammar
}

// New is the lexicon of a grammar that is right and not cyclic.
func New(g api.Gram) Lexicon {
	return Lexicon{gram: g, parts: map[int]part{}, met: map[entry]api.Tree{}}
}

// First is the first tree of a nonterminal over a text, in new memory; false: the text is too long, or there is none.
func (l Lexicon) First(nt int, text []byte) (api.Tree, bool) {
	key := entry{nt, string(text)}
	first, met := l.met[key]
	if !met {
		var is bool
		if first, is = l.part(nt).first(text); !is {
			return api.Tree{}, false
		}
		l.met[key] = first
	}
	own, _ := trees.At(first, nil)
	return own, true
}

// part is the rules that a nonterminal needs.
func (l Lexicon) part(nt int) part {
	p, made := l.parts[nt]
	if !made {
		p = partOf(l.gram, nt)
		l.parts[nt] = p
	}
	return p
}

func partOf(g api.Gram, start int) part {
	g.Start = start
	reached, _ := facts.Reach(g)
	var p part
	number := make([]int, g.Nts)
	for nt, is := range reached {
		if is {
			number[nt] = p.gram.Nts
			p.gram.Nts++
		}
	}
	p.gram.Start = number[start]
	for place, r := range g.Rules {
		if !reached[r.Lhs] {
			continue
		}
		r.Lhs, r.Rhs = number[r.Lhs], slices.Clone(r.Rhs)
		for i, s := range r.Rhs {
			if s.Nt >= 0 {
				r.Rhs[i].Nt = number[s.Nt]
			}
		}
		p.gram.Rules = append(p.gram.Rules, r)
		p.rules = append(p.rules, place)
	}
	return p
}

// first is the first tree over a text, its rules those of the whole grammar: they come in the same order in both.
func (p part) first(text []byte) (api.Tree, bool) {
	list, _ := forest.Trees(p.gram, text, 1) // none of a text that is too long
	if len(list) == 0 {
		return api.Tree{}, false
	}
	for node := range kin.Parts(&list[0], kin.OfTree) {
		if node.Rule >= 0 {
			node.Rule = p.rules[node.Rule]
		}
	}
	return list[0], true
}
