package check

import (
	"slices"

	"tracery/api"
)

func (l look) reject() (api.Errno, string) {
	said := map[string]int{}
	for _, r := range l.def.Rejects {
		said[r.Sort]++
	}
	for _, f := range l.def.Follows {
		said[f.Sort]++
	}
	used := steps(l.def, namedSorts)
	ahead := map[string]int{}
	for _, r := range l.def.Rejects {
		ahead[r.Sort]++
		if !l.isLexical(r.Sort) || !l.isLexical(r.By) || r.Sort == r.By || ahead[r.Sort] > 1 || meets(used, r.By, said) {
			return api.ErrReject, r.Sort
		}
	}
	return api.OK, ""
}

// meets tells whether a name, or one that the steps lead to from it, is among those that are said.
func meets(to map[string][]string, name string, said map[string]int) bool {
	if said[name] > 0 {
		return true
	}
	for other := range reach(to, name) {
		if said[other] > 0 {
			return true
		}
	}
	return false
}

func (l look) prio() (api.Errno, string) {
	for _, chain := range l.def.Chains {
		met := map[string]int{}
		for _, g := range chain {
			for _, name := range g.Cons {
				met[name]++
				if met[name] > 1 || !l.isCons(name) {
					return api.ErrPrio, name
				}
			}
		}
	}
	return api.OK, ""
}

func (l look) follow() (api.Errno, string) {
	for _, f := range l.def.Follows {
		if f.Set == (api.Set{}) {
			return api.ErrFollow, f.Sort
		}
	}
	return api.OK, ""
}

func (l look) box() (api.Errno, string) {
	met := map[string]int{}
	for _, b := range l.def.Boxes {
		met[b.Cons]++
		if met[b.Cons] > 1 || !l.isCons(b.Cons) || !fits(b, l.def.Prods[l.places[b.Cons]]) {
			return api.ErrBox, b.Cons
		}
	}
	return api.OK, ""
}

// leaf is what a template says of one symbol.
type leaf struct {
	kind int
	text string
	n    int
}

// fits tells whether a template goes in nowhere too far, and its leaves are, one by one, the symbols of a production.
func fits(b api.Box, p api.Prod) bool {
	return !tooFar(b.Items) && slices.Equal(leavesOf(b.Items), symLeaves(p))
}

// tooFar tells whether a nest, among items or within them, goes in too far.
func tooFar(list []api.Item) bool {
	return slices.ContainsFunc(list, func(i api.Item) bool {
		return i.Kind == api.BNest && i.N > maxIndent || tooFar(i.Items)
	})
}

// leavesOf is the leaves of items, in order, those within others too.
func leavesOf(list []api.Item) []leaf {
	var out []leaf
	for _, i := range list {
		if i.Kind == api.BText || i.Kind == api.BHole {
			out = append(out, leaf{i.Kind, i.Text, i.N})
		}
		out = append(out, leavesOf(i.Items)...)
	}
	return out
}

// symLeaves is the leaves that a production's template is to have.
func symLeaves(p api.Prod) []leaf {
	var out []leaf
	holes := 0
	for _, s := range p.Syms {
		if s.Kind == api.SLit {
			out = append(out, leaf{kind: api.BText, text: s.Text})
			continue
		}
		holes++
		out = append(out, leaf{kind: api.BHole, n: holes})
	}
	return out
}
