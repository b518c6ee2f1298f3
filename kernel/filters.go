package kernel

import (
	"iter"
	"slices"

	"tracery/api"
	"tracery/charset"
	"tracery/check"
)

// filters are what the definition asks of trees beside its grammar.
func (m *maker) filters() api.Filters {
	f := api.Filters{
		Bans:   m.bans(),
		Follow: make([]api.Set, len(m.names)),
		Reject: slices.Repeat([]int{-1}, len(m.names)),
	}
	for _, said := range m.def.Follows {
		nt := m.sorts[said.Sort]
		f.Follow[nt] = charset.Union(f.Follow[nt], said.Set)
	}
	for _, said := range m.def.Rejects {
		f.Reject[m.sorts[said.Sort]] = m.sorts[said.By]
	}
	return f
}

// The symbols of a production at which another one is barred: its first one, its last one, each one.
const (
	atFirst = 1 << iota
	atLast
	atEach
)

// barTable is where each production (the first index) bars each one (the second index).
type barTable [][]int

// bars puts together what all chains say.
func (m *maker) bars() barTable {
	n := len(m.def.Prods)
	b := make(barTable, n)
	for p := range b {
		b[p] = make([]int, n)
	}
	places := m.consPlaces()
	for _, chain := range m.def.Chains {
		b.addChain(chain, places)
	}
	return b
}

// consPlaces is the place of each constructor's production: asked once, since chains may be many.
func (m *maker) consPlaces() map[string]int {
	places := map[string]int{}
	for i, p := range m.def.Prods {
		if check.Cons(m.def, p.Cons) == i {
			places[p.Cons] = i
		}
	}
	return places
}

// addChain goes from a chain's last group to its first, so that what stands behind a group is known there.
func (b barTable) addChain(chain []api.Group, places map[string]int) {
	var behind []int
	for _, g := range slices.Backward(chain) {
		var own []int
		for _, name := range g.Cons {
			own = append(own, places[name])
		}
		for _, p := range own {
			b.add(p, behind, atEach)
			b.add(p, own, sides(g.Assoc))
		}
		behind = append(behind, own...)
	}
}

func (b barTable) add(p int, kids []int, where int) {
	for _, q := range kids {
		b[p][q] |= where
	}
}

// sides is where the constructors of one group bar each other.
func sides(assoc int) int {
	switch assoc {
	case api.ALeft:
		return atLast
	case api.ARight:
		return atFirst
	case api.ANon:
		return atFirst | atLast
	}
	return 0
}

// bans is the bans of all bars. They are counted ahead, since there may be many millions of them, and a list that grows takes its memory several times.
func (m *maker) bans() []api.Ban {
	all := m.allBans()
	n := 0
	for range all {
		n++
	}
	return slices.AppendSeq(make([]api.Ban, 0, n), all)
}

// allBans goes through the bans as they rise: rules stand by their productions, and so do those of the kids.
func (m *maker) allBans() iter.Seq[api.Ban] {
	rules := m.rulesOfProds()
	kids := m.barredKids(rules)
	return func(yield func(api.Ban) bool) {
		for p, own := range rules {
			for _, r := range own {
				for pos, sym := range m.from[r].Syms {
					if sym < 0 {
						continue
					}
					for _, kid := range kids[p][sym] {
						if !yield(api.Ban{Rule: r, Pos: pos, Kid: kid}) {
							return
						}
					}
				}
			}
		}
	}
}

// rulesOfProds is the rules of each production.
func (m *maker) rulesOfProds() [][]int {
	rules := make([][]int, len(m.def.Prods))
	for r, o := range m.from {
		if o.Kind == api.OUser {
			rules[o.Prod] = append(rules[o.Prod], r)
		}
	}
	return rules
}

// barredKids is, for each production and each of its symbols, the rules that are barred there.
func (m *maker) barredKids(rules [][]int) [][][]int {
	b := m.bars()
	kids := make([][][]int, len(m.def.Prods))
	for i, p := range m.def.Prods {
		kids[i] = make([][]int, len(p.Syms))
		for at, s := range p.Syms {
			if s.Kind != api.SSort && s.Kind != api.SOpt {
				continue
			}
			where := sideOf(at, len(p.Syms)) | atEach
			for j, q := range m.def.Prods {
				if q.Sort == s.Name && b[i][j]&where != 0 {
					kids[i][at] = append(kids[i][at], rules[j]...)
				}
			}
		}
	}
	return kids
}

// sideOf is whether a symbol is the first, the last of so many, or both.
func sideOf(at, n int) int {
	side := 0
	if at == 0 {
		side |= atFirst
	}
	if at == n-1 {
		side |= atLast
	}
	return side
}
