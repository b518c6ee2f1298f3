package packed

import (
	"tracery/api"
)

// count notes of a node, and of all below it, how many trees it has; the node none has no tree. It has a stack of its own, since nodes may lie deeper than calls can.
func (t *Table) count(root node) int {
	if root == (node{}) {
		return 0
	}
	stack := []node{root}
	for len(stack) > 0 {
		n := stack[len(stack)-1]
		if !n.isCounted() {
			below := len(stack)
			stack = t.addUncounted(stack, n)
			if len(stack) > below {
				continue
			}
			n.trees[n.at] = t.sum(n) + 1
		}
		stack = stack[:len(stack)-1]
	}
	return root.count()
}

// addUncounted puts on the stack what lies next below a node and is not counted yet.
func (t *Table) addUncounted(stack []node, n node) []node {
	for w := range t.waysOf(n) {
		for _, below := range []node{w.left, w.right} {
			if !below.isCounted() {
				stack = append(stack, below)
			}
		}
	}
	return stack
}

func (t *Table) sum(n node) int {
	total := 0
	for w := range t.waysOf(n) {
		total = plus(total, w.count())
	}
	return total
}

// count is how many trees, or rows of trees, a way has; what is below it was counted.
func (w way) count() int { return times(w.left.count(), w.right.count()) }

func (n node) isCounted() bool { return n == (node{}) || n.trees[n.at] > 0 }

// count is one of none, where a byte or nothing stands.
func (n node) count() int {
	if n == (node{}) {
		return 1
	}
	return n.trees[n.at] - 1
}

func plus(a, b int) int {
	if a > api.MaxCount-b {
		return api.MaxCount
	}
	return a + b
}

func times(a, b int) int {
	if b > 0 && a > api.MaxCount/b {
		return api.MaxCount
	}
	return a * b
}
