package box

import (
	"slices"

	"tracery/api"
	"tracery/kernel"
	"tracery/lists"
	"tracery/trees"
)

// job is a node, and where its document is to stand.
type job struct {
	node *api.Tree
	doc  *api.Doc
}

// maker has a list of what is still to be turned, since trees may be deeper than calls can.
type maker struct {
	kern    api.Kern
	boxes   map[string]api.Box // the templates by their constructors
	turns   map[int]turn
	waiting []job
}

// newMaker is one for trees of a definition that is right. No document hangs on its chains, of which there may be many millions of bans.
func newMaker(d api.Def) *maker {
	d.Chains = nil
	kern, _ := kernel.Make(d)
	m := &maker{kern: kern, boxes: map[string]api.Box{}}
	for _, b := range kern.Def.Boxes {
		m.boxes[b.Cons] = b
	}
	m.turns = m.turnsOfKinds()
	return m
}

// doc is the document of a tree that is right.
func (m *maker) doc(t *api.Tree) api.Doc {
	var whole api.Doc
	m.wait(t, &whole)
	for len(m.waiting) > 0 {
		last := len(m.waiting) - 1
		j := m.waiting[last]
		m.waiting = m.waiting[:last]
		m.turnNode(j)
	}
	return whole
}

func (m *maker) wait(node *api.Tree, doc *api.Doc) {
	m.waiting = append(m.waiting, job{node, doc})
}

// turnNode makes a node's document; those of the nodes in it wait.
func (m *maker) turnNode(j job) {
	if m.kern.From[j.node.Rule].Kind == api.OTop {
		m.wait(inTop(j.node), j.doc)
		return
	}
	p := prodOf(&m.kern, j.node)
	box, has := m.boxes[p.Cons]
	switch {
	case p.Lex:
		*j.doc = textOf(string(trees.Yield(*j.node)))
	case p.Bracket:
		*j.doc = api.Doc{Kind: api.DCat, Kids: m.symbols(j.node)}
	case has:
		*j.doc = api.Doc{Kind: api.DCat, Kids: m.items(box.Items, j.node)}
	default:
		*j.doc = api.Doc{Kind: api.DGroup, Kids: m.symbols(j.node, m.line(" "))}
	}
}

// inTop is what the top has between its gaps, or alone.
func inTop(node *api.Tree) *api.Tree { return &node.Kids[len(node.Kids)/2] }

// prodOf is the production of a node of a sort.
func prodOf(k *api.Kern, node *api.Tree) api.Prod { return k.Def.Prods[k.From[node.Rule].Prod] }

// symbols is the documents of a node's symbols that are there, with others between each two.
func (m *maker) symbols(node *api.Tree, between ...api.Doc) []api.Doc {
	p := prodOf(&m.kern, node)
	there := slices.Compact(slices.Clone(m.kern.From[node.Rule].Syms)) // a literal has a place for each byte
	there = slices.DeleteFunc(there, func(sym int) bool { return sym < 0 })
	return row(len(there), between, func(i int, doc *api.Doc) {
		if s := p.Syms[there[i]]; s.Kind == api.SLit {
			*doc = textOf(s.Text)
		} else {
			m.hole(node, there[i], doc)
		}
	})
}

// hole makes the document of what stands in a hole; the hole is a place among the production's symbols.
func (m *maker) hole(node *api.Tree, hole int, doc *api.Doc) {
	s := prodOf(&m.kern, node).Syms[hole]
	standing := lists.Standing(m.kern.From, node, hole)
	switch {
	case len(standing) == 0:
		*doc = nothing()
	case s.Kind == api.SSort || s.Kind == api.SOpt:
		m.wait(standing[0], doc)
	default:
		*doc = api.Doc{Kind: api.DCat, Kids: row(len(standing), m.between(s.Sep), func(i int, doc *api.Doc) {
			m.wait(standing[i], doc)
		})}
	}
}

// between is what stands between two parts of a list.
func (m *maker) between(sep string) []api.Doc {
	if sep == "" {
		return []api.Doc{m.line(" ")}
	}
	return []api.Doc{textOf(sep), m.line(" ")}
}

// line is a line of that text; without a Layout no blank and no break may be written.
func (m *maker) line(text string) api.Doc {
	if m.kern.Def.Layout == "" {
		return nothing()
	}
	return api.Doc{Kind: api.DLine, Text: text}
}

func textOf(text string) api.Doc { return api.Doc{Kind: api.DText, Text: text} }

func nothing() api.Doc { return api.Doc{Kind: api.DCat} }

// row is so many documents, one at least, each put in its place by a call, with others between each two. It has its length from the beginning on, so that what lies in it stays where it is.
func row(n int, between []api.Doc, put func(i int, doc *api.Doc)) []api.Doc {
	step := 1 + len(between)
	list := make([]api.Doc, n*step-len(between))
	for i := range n {
		put(i, &list[i*step])
		copy(list[i*step+1:], between) // there is no room for them behind the last one
	}
	return list
}
