package ambig

import (
	"slices"

	"tracery/api"
	"tracery/charset"
	"tracery/earley"
	"tracery/facts"
	"tracery/filter"
)

// search looks at words, each behind all that stand ahead of it.
type search struct {
	gram    api.Gram
	filters api.Filters
	longest int                // no word that is looked at has more bytes
	behind  map[string]api.Set // of each word that some text begins with: the bytes with which that may go on
}

// find is what a search comes to; the grammar and the filters are right, and it is not cyclic.
func find(g api.Gram, f api.Filters, n, budget int) api.Found {
	list := signs(g, f)
	s := newSearch(g, f, longest(len(list), n, budget))
	tried := 0
	for word := range words(list, n) {
		if tried == budget {
			return api.Found{Kind: api.QExhausted, Tried: tried}
		}
		tried++
		if s.hasTwo(word) {
			return api.Found{Kind: api.QWitness, Word: slices.Clone(word), Tried: tried}
		}
	}
	return api.Found{Kind: api.QNone, Tried: tried}
}

// newSearch is one that looks at words of at most so many bytes.
func newSearch(g api.Gram, f api.Filters, longest int) *search {
	s := &search{longest: longest, behind: map[string]api.Set{}}
	s.gram, s.filters = shortened(g, f, longest)
	return s
}

// hasTwo tells whether a word has two trees that are kept. One with which no text begins has none, and most words are such: they are not read.
func (s *search) hasTwo(word []byte) bool {
	if !s.begins(word) {
		return false
	}
	if len(word) < s.longest {
		s.behind[string(word)], _ = earley.Next(s.gram, word)
	}
	count, _ := filter.Count(s.gram, s.filters, word)
	return count >= 2
}

// begins tells whether some text may begin with a word.
func (s *search) begins(word []byte) bool {
	last := len(word) - 1
	return last < 0 || charset.Has(s.behind[string(word[:last])], word[last])
}

// shortened is a grammar and filters that have and keep the same trees of all texts of at most so many bytes: the rules that derive none of these are left out, with their bans.
func shortened(g api.Gram, f api.Filters, most int) (api.Gram, api.Filters) {
	short, _ := facts.Shortest(g)
	less := api.Gram{Nts: g.Nts, Start: g.Start}
	number := make([]int, len(g.Rules)) // of each rule that stays one more than its new place
	for place, r := range g.Rules {
		if isWithin(short, r.Rhs, most) {
			less.Rules = append(less.Rules, r)
			number[place] = len(less.Rules)
		}
	}
	var bans []api.Ban
	for _, b := range f.Bans {
		isKid := g.Rules[b.Kid].Lhs == g.Rules[b.Rule].Rhs[b.Pos].Nt // if not, it never stands there
		if isKid && number[b.Rule] > 0 && number[b.Kid] > 0 {
			bans = append(bans, api.Ban{Rule: number[b.Rule] - 1, Pos: b.Pos, Kid: number[b.Kid] - 1})
		}
	}
	f.Bans = bans
	return less, f
}

// isWithin tells whether symbols derive, one behind the other, a text of at most so many bytes.
func isWithin(short []int, rhs []api.KSym, most int) bool {
	need := 0
	for _, s := range rhs {
		switch {
		case s.Nt < 0 && s.Set == api.Set{}, s.Nt >= 0 && short[s.Nt] < 0:
			return false
		case s.Nt < 0:
			need++
		default:
			need += short[s.Nt]
		}
	}
	return need <= most
}
