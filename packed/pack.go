package packed

import (
	"slices"

	"tracery/api"
)

// pack is the nodes below a root, each with its number's place. What has no trees is left out: what was sifted was counted.
func (t *Table) pack(root node) []api.FNode {
	sifted := t.isSifted()
	list := []node{}
	number := func(n node) int {
		if n == (node{}) {
			return -1
		}
		if n.number == nil {
			n.number = make([]int, len(n.far))
		}
		if n.number[n.at] == 0 {
			list = append(list, n)
			n.number[n.at] = len(list)
		}
		return n.number[n.at] - 1
	}
	number(root)
	var nodes []api.FNode
	var alts []api.Alt
	for i := 0; i < len(list); i++ {
		n := list[i]
		alts = alts[:0]
		for w := range t.waysOf(n) {
			if sifted && w.count() == 0 {
				continue
			}
			left := number(w.left)
			alts = append(alts, api.Alt{Rule: w.rule, Mid: w.mid, Left: left, Right: number(w.right)})
		}
		nodes = append(nodes, api.FNode{Nt: n.nt, Rule: n.rule, Dot: n.dot, From: n.from(), To: n.to(), Ban: t.banOf(n), Alts: slices.Clone(alts)})
	}
	return nodes
}

// banOf is the rules that are banned of a symbol node.
func (t *Table) banOf(n node) []int {
	if n.dot >= 0 {
		return nil
	}
	return slices.Clone(t.bans.lists[n.ban])
}
