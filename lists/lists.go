// Package lists has the parts of a list's node, and what stands in a hole, as ast, paren and box go through them.
package lists

import (
	"slices"

	"tracery/api"
)

// Parts is the nodes of a list's parts, from the left; the list is a right tree of a grammar whose rules come from these origins. It goes down by a loop, since a list nests as often as it has parts.
func Parts(from []api.Origin, list *api.Tree) []*api.Tree {
	var parts []*api.Tree
	for ; from[list.Rule].Kind == api.OMore; list = &list.Kids[0] {
		parts = append(parts, &list.Kids[len(list.Kids)-1])
	}
	parts = append(parts, &list.Kids[0])
	slices.Reverse(parts)
	return parts
}

// Standing is the nodes of sorts that stand in a hole of a right tree's node, from the left: of a list its parts, none of what is left out. The hole is a place among its production's symbols, and names a sort.
func Standing(from []api.Origin, node *api.Tree, hole int) []*api.Tree {
	place := slices.Index(from[node.Rule].Syms, hole)
	if place < 0 {
		return nil
	}
	kid := &node.Kids[place]
	if from[kid.Rule].Kind == api.OUser {
		return []*api.Tree{kid}
	}
	return Parts(from, kid)
}
