package notes

import (
	"iter"
	"slices"

	"tracery/api"
	"tracery/ast"
	"tracery/kernel"
)

// language is a definition's grammar, by which a tree's gaps are known.
type language struct{ kern api.Kern }

// languageOf is that of a definition and one of its trees, or ast.Implode's error of them. No gap hangs on the definition's chains, of which there may be many millions of bans.
func languageOf(d api.Def, t api.Tree) (*language, api.Errno) {
	if _, code := ast.Implode(d, t); code != api.OK {
		return nil, code
	}
	d.Chains = nil
	kern, _ := kernel.Make(d)
	return &language{kern}, api.OK
}

// kindOf is the kind of a node's origin.
func (l *language) kindOf(node *api.Tree) int { return l.kern.From[node.Rule].Kind }

func (l *language) isGap(part *api.Tree) bool {
	return part.Rule >= 0 && (l.kindOf(part) == api.OGapNone || l.kindOf(part) == api.OGapMore)
}

// outer goes through a right tree's gaps, and through its leaves that lie in none, from the left.
func (l *language) outer(t *api.Tree) iter.Seq[*api.Tree] {
	return func(yield func(part *api.Tree) bool) {
		var look func(part *api.Tree) bool // it tells whether to go on
		look = func(part *api.Tree) bool {
			if part.Rule < 0 || l.isGap(part) {
				return yield(part)
			}
			for i := range part.Kids {
				if !look(&part.Kids[i]) {
					return false
				}
			}
			return true
		}
		look(t)
	}
}

// gaps goes through a right tree's gaps, from the left.
func (l *language) gaps(t *api.Tree) iter.Seq[*api.Tree] {
	return func(yield func(gap *api.Tree) bool) {
		for part := range l.outer(t) {
			if l.isGap(part) && !yield(part) {
				return
			}
		}
	}
}

// layouts is the nodes of Layout in a gap, from the left. It goes down by a loop, since a gap nests as often as it has such nodes.
func (l *language) layouts(gap *api.Tree) []*api.Tree {
	var list []*api.Tree
	for ; l.kindOf(gap) == api.OGapMore; gap = &gap.Kids[0] {
		list = append(list, &gap.Kids[1])
	}
	slices.Reverse(list)
	return list
}

// consOf is the Cons of the production of a sort's node.
func (l *language) consOf(node *api.Tree) string {
	return l.kern.Def.Prods[l.kern.From[node.Rule].Prod].Cons
}
