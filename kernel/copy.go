package kernel

import (
	"slices"

	"tracery/api"
)

// copyDef is a definition in new memory, all its lists too.
func copyDef(d api.Def) api.Def {
	d.Prods = copied(d.Prods, func(p api.Prod) api.Prod {
		p.Syms = slices.Clone(p.Syms)
		return p
	})
	d.Chains = copied(d.Chains, func(chain []api.Group) []api.Group {
		return copied(chain, func(g api.Group) api.Group {
			g.Cons = slices.Clone(g.Cons)
			return g
		})
	})
	d.Follows = slices.Clone(d.Follows)
	d.Rejects = slices.Clone(d.Rejects)
	d.Boxes = copied(d.Boxes, func(b api.Box) api.Box {
		b.Items = copyItems(b.Items)
		return b
	})
	return d
}

func copyItems(list []api.Item) []api.Item {
	return copied(list, func(i api.Item) api.Item {
		i.Items = copyItems(i.Items)
		return i
	})
}

// copied is a list of what the call makes of each element.
func copied[T any](list []T, one func(T) T) []T {
	var out []T
	for _, x := range list {
		out = append(out, one(x))
	}
	return out
}
