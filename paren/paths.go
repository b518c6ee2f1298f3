package paren

import (
	"slices"

	"tracery/api"
	"tracery/check"
	"tracery/lists"
)

// kid is a node that stands in a hole of another one, and the steps that lead from the term of that one to its term.
type kid struct {
	node  *api.Tree
	steps []int
}

// paths is the paths of the terms that have brackets in a tree: each ahead of those within it, these from the left.
func (b *brackets) paths(tree *api.Tree) [][]int {
	var list [][]int
	var look func(node *api.Tree, path []int) // it calls itself no deeper than the term is
	look = func(node *api.Tree, path []int) {
		if b.isBracket(node) {
			list = append(list, slices.Clone(path))
			node = b.inner(node)
		}
		for _, k := range b.kids(node) {
			look(k.node, append(path, k.steps...))
		}
	}
	look(tree, nil)
	return list
}

// kids is the nodes that stand in a node's holes, from the left; a lexeme has none.
func (b *brackets) kids(node *api.Tree) []kid {
	p := b.kern.Def.Prods[b.kern.From[node.Rule].Prod]
	if p.Lex {
		return nil
	}
	var list []kid
	for number, hole := range check.Holes(p) {
		for n, inner := range lists.Standing(b.kern.From, node, hole) {
			steps := []int{number, n}
			if p.Syms[hole].Kind == api.SSort {
				steps = steps[:1]
			}
			list = append(list, kid{inner, steps})
		}
	}
	return list
}
