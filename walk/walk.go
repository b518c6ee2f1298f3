// Package walk goes through trees, as trees and filter both do.
package walk

import (
	"iter"

	"tracery/api"
)

// Tree goes through a tree's leaves and nodes, each ahead of its kids, these from the left, and tells how deep each lies, the tree itself at 1. It has a list of its own of what is still to come, since trees may be deeper than calls can.
func Tree(t api.Tree) iter.Seq2[*api.Tree, int] {
	return func(yield func(part *api.Tree, deep int) bool) {
		rows := [][]api.Tree{{t}}
		for len(rows) > 0 {
			last := len(rows) - 1
			if len(rows[last]) == 0 {
				rows = rows[:last]
				continue
			}
			part := &rows[last][0]
			rows[last] = rows[last][1:]
			if !yield(part, len(rows)) {
				return
			}
			rows = append(rows, part.Kids)
		}
	}
}
