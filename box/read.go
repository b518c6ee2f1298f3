package box

import (
	"slices"

	"tracery/api"
	"tracery/chains"
	"tracery/check"
	"tracery/filter"
	"tracery/kernel"
	"tracery/lists"
	"tracery/trees"
)

// isRead tells whether a text is read as a term of Start: whether that is the term of one of the first trees that are kept.
func isRead(d api.Def, text string, t api.Term) bool {
	d.Chains = chains.In(d, text)
	kern, _ := kernel.Make(d)
	list, _ := filter.Trees(kern.Gram, kern.Filters, []byte(text), api.MaxTrees)
	return slices.ContainsFunc(list, func(tree api.Tree) bool { return hasTerm(&kern, &tree, t) })
}

// pair is a node, and the term that its own is to be.
type pair struct {
	node *api.Tree
	term api.Term
}

// hasTerm tells whether a right tree of the top has that term of Start. The two are gone through together: ast.Implode makes the whole grammar each time, and there may be a thousand trees to ask.
func hasTerm(k *api.Kern, tree *api.Tree, t api.Term) bool {
	waiting := []pair{{inTop(tree), t}}
	for len(waiting) > 0 {
		last := len(waiting) - 1
		kids, alike := compare(k, waiting[last])
		if !alike {
			return false
		}
		waiting = append(waiting[:last], kids...)
	}
	return true
}

// compare tells whether a node and a term of its sort are alike, if the nodes and the terms in them are.
func compare(k *api.Kern, p pair) ([]pair, bool) {
	prod := prodOf(k, p.node)
	switch {
	case prod.Lex:
		return nil, string(trees.Yield(*p.node)) == string(p.term.Text)
	case prod.Bracket:
		return []pair{{lists.Standing(k.From, p.node, check.Holes(prod)[0])[0], p.term}}, true
	case prod.Cons != p.term.Cons:
		return nil, false
	}
	var kids []pair
	for i, hole := range check.Holes(prod) {
		parts := p.term.Kids[i : i+1]
		if prod.Syms[hole].Kind != api.SSort {
			parts = parts[0].Kids
		}
		nodes := lists.Standing(k.From, p.node, hole)
		if len(nodes) != len(parts) {
			return nil, false
		}
		for n, part := range parts {
			kids = append(kids, pair{nodes[n], part})
		}
	}
	return kids, true
}
