package check

import (
	"slices"

	"tracery/api"
)

func (l look) mixed() (api.Errno, string) {
	return l.firstSort(api.ErrMixed, func(sort string) bool {
		k := l.known[sort]
		return k.lex && k.plain
	})
}

func (l look) start() (api.Errno, string) {
	if !l.isSort(l.def.Start) || l.isLexical(l.def.Start) {
		return api.ErrStart, l.def.Start
	}
	return api.OK, ""
}

func (l look) layout() (api.Errno, string) {
	if l.def.Layout != "" && !l.isLexical(l.def.Layout) {
		return api.ErrLayout, l.def.Layout
	}
	return api.OK, ""
}

func (l look) undefined() (api.Errno, string) {
	var names []string
	for _, p := range l.def.Prods {
		names = append(names, namedSorts(p)...)
	}
	for _, f := range l.def.Follows {
		names = append(names, f.Sort)
	}
	for _, r := range l.def.Rejects {
		names = append(names, r.Sort, r.By)
	}
	for _, name := range names {
		if !l.isSort(name) {
			return api.ErrUndefined, name
		}
	}
	return api.OK, ""
}

func (l look) kind() (api.Errno, string) {
	return l.firstProd(api.ErrKind, func(p api.Prod) bool {
		if p.Lex {
			return slices.ContainsFunc(p.Syms, func(s api.Sym) bool {
				return s.Name != "" && !l.isLexical(s.Name) || s.Sep != ""
			})
		}
		return slices.ContainsFunc(p.Syms, func(s api.Sym) bool {
			return s.Kind != api.SLit && (s.Name == "" || s.Name == l.def.Layout)
		})
	})
}

func (l look) cons() (api.Errno, string) {
	for i, p := range l.def.Prods {
		if name := constructor(p); name != "" && l.places[name] != i {
			return api.ErrCons, name
		}
	}
	return api.OK, ""
}

func (l look) bracket() (api.Errno, string) {
	return l.firstProd(api.ErrBracket, func(p api.Prod) bool { return p.Bracket && !isBracket(p) })
}

// isBracket tells whether a production is literals, its own sort, and literals. Where it has one hole, all the others are literals.
func isBracket(p api.Prod) bool {
	holes := Holes(p)
	if len(holes) != 1 {
		return false
	}
	at := holes[0]
	return p.Syms[at].Kind == api.SSort && p.Syms[at].Name == p.Sort && 0 < at && at < len(p.Syms)-1
}

func (l look) long() (api.Errno, string) {
	return l.firstProd(api.ErrLong, func(p api.Prod) bool {
		return leftOut(p) > api.MaxOmit || l.ruleSize(p) > api.MaxRhs
	})
}

// leftOut is how many symbols of a production may be left out.
func leftOut(p api.Prod) int {
	n := 0
	for _, s := range p.Syms {
		if mayBeLeftOut(s) {
			n++
		}
	}
	return n
}

// ruleSize is how many symbols a rule has that leaves out nothing: bytes, holes, and the gaps between symbols.
func (l look) ruleSize(p api.Prod) int {
	n := len(Holes(p))
	for _, s := range p.Syms {
		if s.Kind == api.SLit {
			n += len(s.Text)
		}
	}
	if !p.Lex && l.def.Layout != "" {
		n += len(p.Syms) - 1
	}
	return n
}

func (l look) null() (api.Errno, string) {
	return l.firstProd(api.ErrNull, func(p api.Prod) bool {
		return leftOut(p) == len(p.Syms) ||
			slices.ContainsFunc(p.Syms, func(s api.Sym) bool { return s.Kind == api.SLit && s.Text == "" })
	})
}

func (l look) cycle() (api.Errno, string) {
	bare := steps(l.def, bareSorts)
	return l.firstSort(api.ErrCycle, func(sort string) bool { return reach(bare, sort)[sort] > 0 })
}
