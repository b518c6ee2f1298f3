// Package packed has what forest and filter share: the nodes of a text's forest and their ways, with what a sieve leaves out left out; how many trees they have, their numbers, and the first trees.
package packed

import (
	"tracery/api"
)

// Sieve says what a forest leaves out.
type Sieve interface {
	// Keeps tells whether a nonterminal may stand between two places of the text.
	Keeps(nt, from, to int) bool
	// Bans tells which rules of the nonterminal at a rule's place may not stand there: rising, each once.
	Bans(rule, pos int) []int
}

// All leaves nothing out.
type All struct{}

// Keeps is true of all there is.
func (All) Keeps(nt, from, to int) bool { return true }

// Bans tells of no rule.
func (All) Bans(rule, pos int) []int { return nil }

// Forest is the nodes that have trees, in the order of their numbers.
func (t *Table) Forest() api.Forest {
	root := t.root()
	if root == (node{}) || t.isSifted() && t.count(root) == 0 {
		return api.Forest{Root: -1}
	}
	return api.Forest{Nodes: t.pack(root)}
}

// isSifted tells whether the sieve left anything out; if not, each node has a tree.
func (t *Table) isSifted() bool { return t.dropped || len(t.bans.lists) > 1 }

// Count tells how many trees there are, MaxCount, if there are more.
func (t *Table) Count() int { return t.count(t.root()) }

// Trees tells the first trees, all, if there are fewer than most.
func (t *Table) Trees(most int) []api.Tree {
	var list []api.Tree
	for rank := range min(most, t.Count()) {
		list = append(list, t.tree(t.root(), rank))
	}
	return list
}
