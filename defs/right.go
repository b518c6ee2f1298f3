package defs

import (
	"slices"

	"tracery/api"
	"tracery/words"
)

// maxNumber is the greatest number that words can say.
const maxNumber = 999999

// Right tells whether some text says a definition.
func Right(d api.Def) bool {
	return isNameOrNone(d.Start) && isNameOrNone(d.Layout) &&
		len(d.Prods) <= api.MaxProds && all(d.Prods, rightProd) &&
		all(d.Chains, rightChain) &&
		all(d.Follows, func(f api.Follow) bool { return words.IsName(f.Sort) }) &&
		all(d.Rejects, func(r api.Reject) bool { return words.IsName(r.Sort) && words.IsName(r.By) }) &&
		all(d.Boxes, rightBox)
}

func all[T any](list []T, right func(T) bool) bool {
	return !slices.ContainsFunc(list, func(x T) bool { return !right(x) })
}

func isNameOrNone(s string) bool { return s == "" || words.IsName(s) }

// between tells whether a list has one element at least, and so many at most.
func between(n, most int) bool { return 1 <= n && n <= most }

func rightProd(p api.Prod) bool {
	if !words.IsName(p.Sort) || !isNameOrNone(p.Cons) {
		return false
	}
	if p.Lex && p.Bracket || !p.Lex && p.Bracket == (p.Cons != "") {
		return false
	}
	return between(len(p.Syms), api.MaxSyms) && all(p.Syms, rightSym)
}

// rightSym holds a symbol against the one that has just the fields that its kind names.
func rightSym(s api.Sym) bool {
	switch s.Kind {
	case api.SLit:
		return s == api.Sym{Kind: s.Kind, Text: s.Text} && len(s.Text) <= api.MaxLit
	case api.SSet:
		return s == api.Sym{Kind: s.Kind, Set: s.Set}
	case api.SSort:
		return s == api.Sym{Kind: s.Kind, Name: s.Name} && words.IsName(s.Name)
	case api.SOpt:
		return s.Sep == "" && rightOften(s)
	case api.SStar, api.SPlus:
		return rightOften(s)
	}
	return false
}

// rightOften tells it of a symbol with a `?`, `*` or `+`: of a set, or of a name, perhaps with a text between.
func rightOften(s api.Sym) bool {
	if s.Name == "" {
		return s == api.Sym{Kind: s.Kind, Set: s.Set}
	}
	return s == api.Sym{Kind: s.Kind, Name: s.Name, Sep: s.Sep} && words.IsName(s.Name) && len(s.Sep) <= api.MaxLit
}

func rightChain(chain []api.Group) bool {
	return between(len(chain), api.MaxGroups) && all(chain, rightGroup)
}

func rightGroup(g api.Group) bool {
	return api.ANone <= g.Assoc && g.Assoc <= api.ANon && between(len(g.Cons), api.MaxGroups) && all(g.Cons, words.IsName)
}

func rightBox(b api.Box) bool {
	have := 0
	var right func(i api.Item) bool
	right = func(i api.Item) bool {
		have++
		return have <= api.MaxItems && rightItem(i) && all(i.Items, right)
	}
	return words.IsName(b.Cons) && all(b.Items, right)
}

// rightItem tells it of an item, whatever lies within it.
func rightItem(i api.Item) bool {
	within := len(i.Items) > 0
	switch i.Kind {
	case api.BText:
		return len(i.Text) <= api.MaxLit && i.N == 0 && !within
	case api.BHole:
		return i.Text == "" && isNumber(i.N) && !within
	case api.BLine, api.BCut:
		return i.Text == "" && i.N == 0 && !within
	case api.BNest:
		return i.Text == "" && isNumber(i.N)
	case api.BGroup:
		return i.Text == "" && i.N == 0
	}
	return false
}

func isNumber(n int) bool { return 0 <= n && n <= maxNumber }
