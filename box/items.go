package box

import (
	"tracery/api"
	"tracery/check"
)

// turn makes the document of an item of the template of a node's constructor.
type turn func(item api.Item, node *api.Tree, doc *api.Doc)

// turnsOfKinds is how the items of each kind are turned.
func (m *maker) turnsOfKinds() map[int]turn {
	return map[int]turn{
		api.BText: func(item api.Item, _ *api.Tree, doc *api.Doc) { *doc = textOf(item.Text) },
		api.BHole: func(item api.Item, node *api.Tree, doc *api.Doc) {
			m.hole(node, check.Holes(prodOf(&m.kern, node))[item.N-1], doc)
		},
		api.BLine: func(_ api.Item, _ *api.Tree, doc *api.Doc) { *doc = m.line(" ") },
		api.BCut:  func(_ api.Item, _ *api.Tree, doc *api.Doc) { *doc = m.line("") },
		api.BNest: func(item api.Item, node *api.Tree, doc *api.Doc) {
			*doc = api.Doc{Kind: api.DNest, N: item.N, Kids: m.items(item.Items, node)}
		},
		api.BGroup: func(item api.Item, node *api.Tree, doc *api.Doc) {
			*doc = api.Doc{Kind: api.DGroup, Kids: m.items(item.Items, node)}
		},
	}
}

// items is the documents of items; it calls itself no deeper than MaxItems.
func (m *maker) items(list []api.Item, node *api.Tree) []api.Doc {
	docs := make([]api.Doc, len(list))
	for i, item := range list {
		m.turns[item.Kind](item, node, &docs[i])
	}
	return docs
}
