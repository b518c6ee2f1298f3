package ast

import (
	"slices"

	"tracery/api"
	"tracery/kernel"
	"tracery/lists"
	"tracery/trees"
)

// job is a node, and where its term is to stand.
type job struct {
	node *api.Tree
	term *api.Term
}

// imploder has a list of what is still to be turned, since trees may be deeper than calls can.
type imploder struct {
	language
	waiting []job
}

// needRoot gives up, if a tree is none of a sort or of the top.
func (i *imploder) needRoot(t api.Tree) {
	need(0 <= t.Rule && t.Rule < len(i.kern.From), api.ErrTree)
	kind := i.origin(&t).Kind
	need(kind == api.OUser || kind == api.OTop, api.ErrTree)
	need(trees.Right(i.kern.Gram, i.kern.Gram.Rules[t.Rule].Lhs, t) == api.OK, api.ErrTree)
}

// term is the term of a tree that is right.
func (i *imploder) term(t api.Tree) api.Term {
	turn := map[int]func(j job){api.OUser: i.user, api.OOne: i.list, api.OMore: i.list, api.OTop: i.top}
	var whole api.Term
	i.wait(&t, &whole)
	for len(i.waiting) > 0 {
		last := len(i.waiting) - 1
		j := i.waiting[last]
		i.waiting = i.waiting[:last]
		turn[i.origin(j.node).Kind](j)
	}
	return whole
}

func (i *imploder) wait(node *api.Tree, term *api.Term) {
	i.waiting = append(i.waiting, job{node, term})
}

// top turns a node of the top, whose term is that of what lies between its gaps.
func (i *imploder) top(j job) {
	start := api.KSym{Nt: kernel.Sort(i.kern, i.kern.Def.Start)}
	i.wait(&j.node.Kids[slices.Index(i.kern.Gram.Rules[j.node.Rule].Rhs, start)], j.term)
}

// user turns a node of a sort.
func (i *imploder) user(j job) {
	from := i.origin(j.node)
	holes := i.holes[from.Prod]
	switch p := i.prod(from.Prod); {
	case p.Lex:
		*j.term = api.Term{Kind: api.TLex, Text: trees.Yield(*j.node)}
	case p.Bracket:
		i.wait(&j.node.Kids[slices.Index(from.Syms, holes[0])], j.term)
	default:
		kids := make([]api.Term, len(holes))
		*j.term = api.Term{Kind: api.TApp, Cons: p.Cons, Kids: kids}
		for n, hole := range holes {
			i.hole(p.Syms[hole], j.node, slices.Index(from.Syms, hole), &kids[n])
		}
	}
}

// hole turns what stands in a hole at one of a node's places; it is left out, if that is -1.
func (i *imploder) hole(s api.Sym, node *api.Tree, place int, term *api.Term) {
	switch {
	case place >= 0 && s.Kind == api.SOpt:
		*term = api.Term{Kind: api.TSome, Kids: make([]api.Term, 1)}
		i.wait(&node.Kids[place], &term.Kids[0])
	case place >= 0:
		i.wait(&node.Kids[place], term)
	case s.Kind == api.SOpt:
		*term = api.Term{Kind: api.TNone}
	default:
		*term = api.Term{Kind: api.TList}
	}
}

// list turns a node of a list.
func (i *imploder) list(j job) {
	parts := lists.Parts(i.kern.From, j.node)
	kids := make([]api.Term, len(parts))
	*j.term = api.Term{Kind: api.TList, Kids: kids}
	for n, part := range parts {
		i.wait(part, &kids[n])
	}
}
