package packed

import (
	"tracery/api"
)

// deepest is how often a closure calls itself before what lies deeper waits.
const deepest = 1000

// choose is the way of a node to its tree, or row of trees, of that number, and the number among the way's own.
func (t *Table) choose(n node, rank int) (way, int) {
	for w := range t.waysOf(n) {
		trees := w.count()
		if rank < trees {
			return w, rank
		}
		rank -= trees
	}
	return way{}, 0
}

// tree is the tree of that number of a symbol node that was counted.
func (t *Table) tree(root node, rank int) api.Tree {
	type task struct {
		tree *api.Tree
		node node
		rank int
	}
	var top api.Tree
	waiting := []task{{&top, root, rank}}
	var grow func(k task, deep int)
	grow = func(k task, deep int) {
		if deep == deepest {
			waiting = append(waiting, k)
			return
		}
		w, rank := t.choose(k.node, k.rank)
		kids := make([]api.Tree, len(t.gram.Rules[w.rule].Rhs))
		*k.tree = api.Tree{Rule: w.rule, Kids: kids}
		for i := len(kids) - 1; i >= 0; i-- {
			w, rank = t.choose(w.left, rank)
			trees := w.right.count()
			if w.right == (node{}) {
				kids[i] = api.Tree{Rule: -1, Byte: t.text[w.mid]}
			} else {
				grow(task{&kids[i], w.right, rank % trees}, deep+1)
			}
			rank /= trees
		}
	}
	for i := 0; i < len(waiting); i++ {
		grow(waiting[i], 0)
	}
	return top
}
