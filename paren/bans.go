package paren

import (
	"tracery/api"
	"tracery/kin"
)

// chainsOf is what chains say of a term's constructors among one another. What they say of others may be many millions of bans, and the term's tree meets none of these.
func chainsOf(chains [][]api.Group, t api.Term) [][]api.Group {
	has := map[string]int{}
	for part := range kin.Parts(&t, kin.OfTerm) {
		has[part.Cons]++
	}
	var out [][]api.Group
	for _, chain := range chains {
		if groups := groupsOf(chain, has); len(groups) > 0 {
			out = append(out, groups)
		}
	}
	return out
}

// groupsOf is a chain's groups with those constructors alone that are had. A group without any is left out: none may be empty.
func groupsOf(chain []api.Group, has map[string]int) []api.Group {
	var out []api.Group
	for _, g := range chain {
		var cons []string
		for _, name := range g.Cons {
			if has[name] > 0 {
				cons = append(cons, name)
			}
		}
		if len(cons) > 0 {
			out = append(out, api.Group{Assoc: g.Assoc, Cons: cons})
		}
	}
	return out
}

// violated counts, for each node of a tree and each of its kids, the bans that the two violate. The map is made of the tree, not of the bans: there may be many more of these.
func violated(tree *api.Tree, bans []api.Ban) map[api.Ban]int {
	count := map[api.Ban]int{}
	for node := range kin.Parts(tree, kin.OfTree) {
		for pos := range node.Kids {
			count[banOf(node, pos)] = 0
		}
	}
	for _, b := range bans {
		if _, met := count[b]; met {
			count[b]++
		}
	}
	return count
}

// banOf is the ban that a node and its kid at a place would violate. Of a leaf there is never one.
func banOf(node *api.Tree, pos int) api.Ban {
	return api.Ban{Rule: node.Rule, Pos: pos, Kid: node.Kids[pos].Rule}
}
