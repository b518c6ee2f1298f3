package paren

import (
	"tracery/api"
	"tracery/chains"
	"tracery/kin"
)

// chainsOf is what chains say of a term's constructors among one another: the term's tree meets no ban of others.
func chainsOf(list [][]api.Group, t api.Term) [][]api.Group {
	has := map[string]int{}
	for part := range kin.Parts(&t, kin.OfTerm) {
		has[part.Cons]++
	}
	return chains.Among(list, has)
}

// violated counts, for each node of a tree and each of its kids, the bans that the two violate. The map is made of the tree, not of the bans: there may be many more of these.
func violated(tree *api.Tree, bans []api.Ban) map[api.Ban]int {
	count := map[api.Ban]int{}
	for node := range kin.Parts(tree, kin.OfTree) {
		for pos := range node.Kids {
			count[banOf(node, pos)] = 0
		}
	}
	for _, b := range bans {
		if _, met := count[b]; met {
			count[b]++
		}
	}
	return count
}

// banOf is the ban that a node and its kid at a place would violate. Of a leaf there is never one.
func banOf(node *api.Tree, pos int) api.Ban {
	return api.Ban{Rule: node.Rule, Pos: pos, Kid: node.Kids[pos].Rule}
}
