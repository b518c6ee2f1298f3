package trees

import (
	"iter"

	"tracery/api"
	"tracery/kin"
)

// part is a leaf or node as it lies in a tree.
type part struct {
	*api.Tree
	deep  int
	bytes int // how many bytes it yields by itself: 1, if it is a leaf that lies in no other one
}

// parts goes through a tree's leaves and nodes, each ahead of its kids, these from the left.
func parts(t api.Tree) iter.Seq[part] {
	return func(yield func(p part) bool) {
		leaf := 0 // how deep the leaf lies whose Kids are gone through; 0: it is none
		for tree, deep := range kin.Parts(&t, kin.OfTree) {
			p := part{Tree: tree, deep: deep}
			if deep <= leaf {
				leaf = 0
			}
			if leaf == 0 && isLeaf(*tree) {
				leaf = deep
				p.bytes = 1
			}
			if !yield(p) {
				return
			}
		}
	}
}

// Yield tells the Bytes of a tree's leaves.
func Yield(t api.Tree) []byte {
	var list []byte
	for p := range parts(t) {
		if p.bytes == 1 {
			list = append(list, p.Byte)
		}
	}
	return list
}

// Size tells how many leaves and nodes a tree has, and how deep it is.
func Size(t api.Tree) (int, int) { return kin.Size(t, kin.OfTree) }

// Spans tells where each leaf and node reaches.
func Spans(t api.Tree) []api.Run {
	var list []api.Run
	var open []int // the numbers of those that the one that is met lies in
	place := 0
	for p := range parts(t) {
		for len(open) >= p.deep {
			list[open[len(open)-1]].Hi = place
			open = open[:len(open)-1]
		}
		open = append(open, len(list))
		list = append(list, api.Run{Lo: place})
		place += p.bytes
	}
	for _, number := range open {
		list[number].Hi = place
	}
	return list
}
