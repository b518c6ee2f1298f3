package forest

import (
	"tracery/api"
)

// count notes of a node, and of all below it, how many trees it has; the node none has no tree. It has a stack of its own, since nodes may lie deeper than calls can.
func (t *table) count(root node) int {
	if root == (node{}) {
		return 0
	}
	stack := []node{root}
	for len(stack) > 0 {
		n := stack[len(stack)-1]
		if n.note[n.at] == 0 {
			below := len(stack)
			stack = t.addUncounted(stack, n)
			if len(stack) > below {
				continue
			}
			n.note[n.at] = t.sum(n)
		}
		stack = stack[:len(stack)-1]
	}
	return root.note[root.at]
}

// addUncounted puts on the stack what lies next below a node and is not counted yet.
func (t *table) addUncounted(stack []node, n node) []node {
	for w := range t.waysOf(n) {
		for _, below := range []node{w.left, w.right} {
			if below != (node{}) && below.note[below.at] == 0 {
				stack = append(stack, below)
			}
		}
	}
	return stack
}

func (t *table) sum(n node) int {
	total := 0
	for w := range t.waysOf(n) {
		total = plus(total, w.trees())
	}
	return total
}

// trees is how many trees, or rows of trees, a way has; what is below it was counted.
func (w way) trees() int { return times(w.left.trees(), w.right.trees()) }

// trees is one of none, where a byte or nothing stands.
func (n node) trees() int {
	if n == (node{}) {
		return 1
	}
	return n.note[n.at]
}

func plus(a, b int) int {
	if a > api.MaxCount-b {
		return api.MaxCount
	}
	return a + b
}

// times is of numbers above 0.
func times(a, b int) int {
	if a > api.MaxCount/b {
		return api.MaxCount
	}
	return a * b
}
