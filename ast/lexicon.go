package ast

import (
	"slices"

	"tracery/api"
	"tracery/facts"
	"tracery/forest"
	"tracery/kin"
	"tracery/trees"
)

// lexeme is a text of a lexical sort's nonterminal.
type lexeme struct {
	nt   int
	text string
}

// lexicon finds lexemes' trees. Those that were met are kept, since a term may have the same ones often.
type lexicon struct {
	gram  api.Gram
	parts map[int]part
	met   map[lexeme]api.Tree
}

// part is the rules of a grammar that one nonterminal needs, with numbers of their own: a lexeme is looked for soon among them, and slowly among thousands of others.
type part struct {
	gram  api.Gram
	rules []int // of each rule its place in the whole grammar
}

func newLexicon(g api.Gram) lexicon {
	return lexicon{gram: g, parts: map[int]part{}, met: map[lexeme]api.Tree{}}
}

// tree is the first tree of a nonterminal over a text, in new memory; it gives up, if there is none.
func (l lexicon) tree(nt int, text []byte) api.Tree {
	need(len(text) <= api.MaxInput, api.ErrLex)
	key := lexeme{nt, string(text)}
	first, met := l.met[key]
	if !met {
		first = l.part(nt).first(text)
		l.met[key] = first
	}
	own, _ := trees.At(first, nil)
	return own
}

// part is the rules that a nonterminal needs.
func (l lexicon) part(nt int) part {
	p, made := l.parts[nt]
	if !made {
		p = partOf(l.gram, nt)
		l.parts[nt] = p
	}
	return p
}

func partOf(g api.Gram, start int) part {
	g.Start = start
	reached, _ := facts.Reach(g)
	var p part
	number := make([]int, g.Nts)
	for nt, is := range reached {
		if is {
			number[nt] = p.gram.Nts
			p.gram.Nts++
		}
	}
	p.gram.Start = number[start]
	for place, r := range g.Rules {
		if !reached[r.Lhs] {
			continue
		}
		r.Lhs, r.Rhs = number[r.Lhs], slices.Clone(r.Rhs)
		for i, s := range r.Rhs {
			if s.Nt >= 0 {
				r.Rhs[i].Nt = number[s.Nt]
			}
		}
		p.gram.Rules = append(p.gram.Rules, r)
		p.rules = append(p.rules, place)
	}
	return p
}

// first is the first tree over a text, its rules those of the whole grammar: they come in the same order in both.
func (p part) first(text []byte) api.Tree {
	list, _ := forest.Trees(p.gram, text, 1)
	need(len(list) == 1, api.ErrLex)
	for node := range kin.Parts(&list[0], kin.OfTree) {
		if node.Rule >= 0 {
			node.Rule = p.rules[node.Rule]
		}
	}
	return list[0]
}
