package forest

import (
	"slices"

	"tracery/api"
)

// pack is the nodes below a root, each with its number's place.
func (t *table) pack(root node) []api.FNode {
	list := []node{}
	number := func(n node) int {
		if n == (node{}) {
			return -1
		}
		if n.note[n.at] == 0 {
			list = append(list, n)
			n.note[n.at] = len(list)
		}
		return n.note[n.at] - 1
	}
	number(root)
	var nodes []api.FNode
	var alts []api.Alt
	for i := 0; i < len(list); i++ {
		n := list[i]
		alts = alts[:0]
		for w := range t.waysOf(n) {
			left := number(w.left)
			alts = append(alts, api.Alt{Rule: w.rule, Mid: w.mid, Left: left, Right: number(w.right)})
		}
		nodes = append(nodes, api.FNode{Nt: n.nt, Rule: n.rule, Dot: n.dot, From: n.from(), To: n.to(), Alts: slices.Clone(alts)})
	}
	return nodes
}
