package defs

import (
	"slices"

	"tracery/api"
)

// Same tells whether two definitions are the same.
func Same(a, b api.Def) bool {
	return a.Start == b.Start && a.Layout == b.Layout &&
		slices.EqualFunc(a.Prods, b.Prods, sameProd) &&
		slices.EqualFunc(a.Chains, b.Chains, sameChain) &&
		slices.Equal(a.Follows, b.Follows) &&
		slices.Equal(a.Rejects, b.Rejects) &&
		slices.EqualFunc(a.Boxes, b.Boxes, sameBox)
}

func sameProd(a, b api.Prod) bool {
	return a.Lex == b.Lex && a.Sort == b.Sort && a.Cons == b.Cons && a.Bracket == b.Bracket && slices.Equal(a.Syms, b.Syms)
}

func sameChain(a, b []api.Group) bool { return slices.EqualFunc(a, b, sameGroup) }

func sameGroup(a, b api.Group) bool { return a.Assoc == b.Assoc && slices.Equal(a.Cons, b.Cons) }

func sameBox(a, b api.Box) bool {
	return a.Cons == b.Cons && slices.EqualFunc(a.Items, b.Items, sameItem)
}

func sameItem(a, b api.Item) bool {
	return a.Kind == b.Kind && a.Text == b.Text && a.N == b.N && slices.EqualFunc(a.Items, b.Items, sameItem)
}
