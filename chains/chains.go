// Package chains has of a definition's chains what some constructors need, as paren, box and tools ask for it: all that they ban may be many millions.
package chains

import (
	"slices"
	"strings"

	"tracery/api"
)

// In is what chains say of the constructors whose literals stand in a text, among one another: no tree of it has a node of another one, and none meets a ban of that.
func In(d api.Def, text string) [][]api.Group {
	lacks := func(s api.Sym) bool { return !strings.Contains(text, s.Text) } // no symbol but a literal has a Text
	return ofThose(d, func(p api.Prod) bool { return !slices.ContainsFunc(p.Syms, lacks) })
}

// Within is likewise what they say of the constructors that texts of at most n bytes may have.
func Within(d api.Def, n int) [][]api.Group {
	return ofThose(d, func(p api.Prod) bool { return leastBytes(p) <= n })
}

// leastBytes is how many bytes a node of a production has at least: nothing that stands in a hole is without any.
func leastBytes(p api.Prod) int {
	n := 0
	for _, s := range p.Syms {
		switch s.Kind {
		case api.SLit:
			n += len(s.Text)
		case api.SSet, api.SSort, api.SPlus:
			n++
		}
	}
	return n
}

// ofThose is what chains say of the constructors whose productions are so.
func ofThose(d api.Def, isSo func(p api.Prod) bool) [][]api.Group {
	has := map[string]int{}
	for _, p := range d.Prods {
		if !p.Lex && isSo(p) {
			has[p.Cons]++
		}
	}
	return Among(d.Chains, has)
}

// Among is what chains say of the constructors that are had, among one another.
func Among(chains [][]api.Group, has map[string]int) [][]api.Group {
	var out [][]api.Group
	for _, chain := range chains {
		if groups := groupsOf(chain, has); len(groups) > 0 {
			out = append(out, groups)
		}
	}
	return out
}

// groupsOf is a chain's groups with those constructors alone that are had. A group without any is left out: none may be empty.
func groupsOf(chain []api.Group, has map[string]int) []api.Group {
	var out []api.Group
	for _, g := range chain {
		var cons []string
		for _, name := range g.Cons {
			if has[name] > 0 {
				cons = append(cons, name)
			}
		}
		if len(cons) > 0 {
			out = append(out, api.Group{Assoc: g.Assoc, Cons: cons})
		}
	}
	return out
}
