package check

import (
	"tracery/api"
)

// kinds tells whether a sort has a production with Lex, and one without.
type kinds struct{ lex, plain bool }

// sortKinds is what is known of each sort, by its name.
func sortKinds(d api.Def) map[string]kinds {
	known := map[string]kinds{}
	for _, p := range d.Prods {
		k := known[p.Sort]
		if p.Lex {
			k.lex = true
		} else {
			k.plain = true
		}
		known[p.Sort] = k
	}
	return known
}

// Sorts is a definition's sorts.
func Sorts(d api.Def) []string {
	return sortsThat(d, func(string) bool { return true })
}

// Lexical is a definition's lexical sorts.
func Lexical(d api.Def) []string {
	known := sortKinds(d)
	return sortsThat(d, func(sort string) bool { return known[sort].lex })
}

// Uses is the sorts that a sort uses.
func Uses(d api.Def, sort string) []string {
	used := reach(steps(d, namedSorts), sort)
	return sortsThat(d, func(other string) bool { return used[other] > 0 })
}

// sortsThat is the sorts for which that holds, by their first productions.
func sortsThat(d api.Def, holds func(sort string) bool) []string {
	var list []string
	met := map[string]int{}
	for _, p := range d.Prods {
		met[p.Sort]++
		if met[p.Sort] == 1 && holds(p.Sort) {
			list = append(list, p.Sort)
		}
	}
	return list
}

// steps is, of each sort, the names to which its productions lead.
func steps(d api.Def, leads func(p api.Prod) []string) map[string][]string {
	to := map[string][]string{}
	for _, p := range d.Prods {
		to[p.Sort] = append(to[p.Sort], leads(p)...)
	}
	return to
}

// reach counts the names that one step or several lead to from a name: each that is met once.
func reach(to map[string][]string, from string) map[string]int {
	met := map[string]int{}
	work := []string{from}
	for len(work) > 0 {
		at := work[len(work)-1]
		work = work[:len(work)-1]
		for _, next := range to[at] {
			if met[next] == 0 {
				met[next] = 1
				work = append(work, next)
			}
		}
	}
	return met
}

func namedSorts(p api.Prod) []string {
	var list []string
	for _, s := range p.Syms {
		if s.Name != "" {
			list = append(list, s.Name)
		}
	}
	return list
}

// bareSorts is the sort of which a text may be all of a production's text, if there is one.
func bareSorts(p api.Prod) []string {
	var needed []api.Sym
	for _, s := range p.Syms {
		if !mayBeLeftOut(s) {
			needed = append(needed, s)
		}
	}
	if len(needed) != 1 || needed[0].Name == "" {
		return nil
	}
	if kind := needed[0].Kind; kind != api.SSort && kind != api.SPlus {
		return nil
	}
	return []string{needed[0].Name}
}

func mayBeLeftOut(s api.Sym) bool { return s.Kind == api.SOpt || s.Kind == api.SStar }

// Holes is the places of a production's symbols that are no literals.
func Holes(p api.Prod) []int {
	var list []int
	for i, s := range p.Syms {
		if s.Kind != api.SLit {
			list = append(list, i)
		}
	}
	return list
}

// Cons is the place of a constructor's production.
func Cons(d api.Def, name string) int {
	if at, ok := consPlaces(d)[name]; ok {
		return at
	}
	return -1
}

// consPlaces is the place of each constructor's first production.
func consPlaces(d api.Def) map[string]int {
	places := map[string]int{}
	for i, p := range d.Prods {
		name := constructor(p)
		if _, met := places[name]; name != "" && !met {
			places[name] = i
		}
	}
	return places
}

// constructor is a production's constructor, empty if it has none: the Cons of one with Lex is none.
func constructor(p api.Prod) string {
	if p.Lex {
		return ""
	}
	return p.Cons
}
