// Package lists has the parts of a list's node, as ast and paren both go through them.
package lists

import (
	"slices"

	"tracery/api"
)

// Parts is the nodes of a list's parts, from the left; the list is a right tree of a grammar whose rules come from these origins. It goes down by a loop, since a list nests as often as it has parts.
func Parts(from []api.Origin, list *api.Tree) []*api.Tree {
	var parts []*api.Tree
	for ; from[list.Rule].Kind == api.OMore; list = &list.Kids[0] {
		parts = append(parts, &list.Kids[len(list.Kids)-1])
	}
	parts = append(parts, &list.Kids[0])
	slices.Reverse(parts)
	return parts
}
