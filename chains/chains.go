// Package chains has of a definition's chains what some constructors need, as paren and box both ask for it: all that they ban may be many millions.
package chains

import (
	"tracery/api"
)

// Among is what chains say of the constructors that are had, among one another.
func Among(chains [][]api.Group, has map[string]int) [][]api.Group {
	var out [][]api.Group
	for _, chain := range chains {
		if groups := groupsOf(chain, has); len(groups) > 0 {
			out = append(out, groups)
		}
	}
	return out
}

// groupsOf is a chain's groups with those constructors alone that are had. A group without any is left out: none may be empty.
func groupsOf(chain []api.Group, has map[string]int) []api.Group {
	var out []api.Group
	for _, g := range chain {
		var cons []string
		for _, name := range g.Cons {
			if has[name] > 0 {
				cons = append(cons, name)
			}
		}
		if len(cons) > 0 {
			out = append(out, api.Group{Assoc: g.Assoc, Cons: cons})
		}
	}
	return out
}
