package paren

import (
	"slices"

	"tracery/api"
	"tracery/charset"
	"tracery/kernel"
	"tracery/kin"
)

// brackets are those of a definition.
type brackets struct {
	kern  api.Kern
	holes map[int]int // of each bracket's rule the place of its hole
	own   map[int]int // of each sort's nonterminal the rule of its bracket, if it has one
	none  int         // the rule of a gap of nothing
}

// newBrackets is the brackets of a definition that is right.
func newBrackets(d api.Def) *brackets {
	kern, _ := kernel.Make(d)
	b := &brackets{kern: kern, holes: map[int]int{}, own: map[int]int{}}
	for rule, from := range kern.From {
		switch {
		case from.Kind == api.OGapNone:
			b.none = rule
		case from.Kind == api.OUser && kern.Def.Prods[from.Prod].Bracket:
			b.add(rule)
		}
	}
	return b
}

// add adds a bracket's rule; the first one of a sort is the sort's own. What stands in its hole is of the same sort.
func (b *brackets) add(rule int) {
	r := b.kern.Gram.Rules[rule]
	b.holes[rule] = slices.Index(r.Rhs, api.KSym{Nt: r.Lhs})
	if _, met := b.own[r.Lhs]; !met {
		b.own[r.Lhs] = rule
	}
}

func (b *brackets) isBracket(node *api.Tree) bool {
	_, is := b.holes[node.Rule]
	return is
}

// inner is the node in a bracket's hole.
func (b *brackets) inner(node *api.Tree) *api.Tree { return &node.Kids[b.holes[node.Rule]] }

// put puts brackets into a plain tree; it tells whether there are all that are needed.
func (b *brackets) put(tree *api.Tree) bool {
	count := violated(tree, b.kern.Filters.Bans)
	for node := range kin.Parts(tree, kin.OfTree) {
		for pos, kid := range node.Kids {
			if count[banOf(node, pos)] == 0 {
				continue
			}
			rule, has := b.own[b.kern.Gram.Rules[kid.Rule].Lhs]
			if !has {
				return false
			}
			node.Kids[pos] = b.around(rule, kid)
		}
	}
	return true
}

// around is a node of a bracket's rule, with another node in its hole. Beside that it has literals and gaps.
func (b *brackets) around(rule int, node api.Tree) api.Tree {
	rhs := b.kern.Gram.Rules[rule].Rhs
	kids := make([]api.Tree, len(rhs))
	for i, s := range rhs {
		switch {
		case i == b.holes[rule]:
			kids[i] = node
		case s.Nt >= 0:
			kids[i] = api.Tree{Rule: b.none}
		default:
			kids[i] = api.Tree{Rule: -1, Byte: charset.Bytes(s.Set)[0]}
		}
	}
	return api.Tree{Rule: rule, Kids: kids}
}
