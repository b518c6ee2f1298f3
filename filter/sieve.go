package filter

import (
	"cmp"
	"slices"

	"tracery/api"
	"tracery/charset"
	"tracery/earley"
)

// spot is a symbol's place in a rule.
type spot struct{ rule, pos int }

// sieve is filters at work on a text; they are right for the grammar.
type sieve struct {
	gram    api.Gram
	filters api.Filters
	text    []byte
	kids    map[spot][]int    // the rules that bans name at a symbol's place; nil, till they are asked for
	spans   map[int][]api.Run // of a nonterminal that rejects: where it stands in the text
}

func newSieve(g api.Gram, f api.Filters, w []byte) *sieve {
	return &sieve{gram: g, filters: f, text: w, spans: map[int][]api.Run{}}
}

// Keeps tells whether a nonterminal may stand between two places.
func (s *sieve) Keeps(nt, from, to int) bool {
	return !s.isFollowed(nt, to) && !s.isRejected(nt, from, to)
}

// isFollowed tells whether the byte behind a nonterminal may not follow it.
func (s *sieve) isFollowed(nt, to int) bool {
	return nt < len(s.filters.Follow) && to < len(s.text) && charset.Has(s.filters.Follow[nt], s.text[to])
}

// isRejected tells whether what rejects a nonterminal stands in its place.
func (s *sieve) isRejected(nt, from, to int) bool {
	if nt >= len(s.filters.Reject) || s.filters.Reject[nt] < 0 {
		return false
	}
	_, is := slices.BinarySearchFunc(s.spansOf(s.filters.Reject[nt]), api.Run{Lo: from, Hi: to}, compareRuns)
	return is
}

// spansOf is where a nonterminal stands, in the order of compareRuns.
func (s *sieve) spansOf(nt int) []api.Run {
	list, met := s.spans[nt]
	if !met {
		list, _ = earley.Spans(s.gram, s.text, nt)
		s.spans[nt] = list
	}
	return list
}

func compareRuns(a, b api.Run) int {
	return cmp.Or(cmp.Compare(a.Lo, b.Lo), cmp.Compare(a.Hi, b.Hi))
}

// Bans tells which rules of the nonterminal at a rule's place may not stand there.
func (s *sieve) Bans(rule, pos int) []int {
	if s.kids == nil {
		s.kids = kidsOf(s.gram, s.filters.Bans)
	}
	return s.kids[spot{rule, pos}]
}

// kidsOf is the rules that bans name at each symbol's place, rising, each once. What is no rule of the nonterminal that stands there is left out: it is never a kid there.
func kidsOf(g api.Gram, bans []api.Ban) map[spot][]int {
	kids := map[spot][]int{}
	var spots []spot
	for len(bans) > 0 {
		at, n := spotOf(bans[0]), sameSpot(bans)
		list, met := kids[at]
		if !met {
			spots = append(spots, at)
		}
		for _, b := range bans[:n] {
			if g.Rules[b.Kid].Lhs == g.Rules[b.Rule].Rhs[b.Pos].Nt {
				list = append(list, b.Kid)
			}
		}
		kids[at] = list
		bans = bans[n:]
	}
	for _, at := range spots {
		list := kids[at]
		slices.Sort(list)
		kids[at] = slices.Compact(list)
	}
	return kids
}

func spotOf(b api.Ban) spot { return spot{b.Rule, b.Pos} }

// sameSpot is how many bans at the beginning of a list, one at least, are of one symbol's place: they mostly stand together, and the map is asked once for all of them.
func sameSpot(bans []api.Ban) int {
	n := slices.IndexFunc(bans, func(b api.Ban) bool { return spotOf(b) != spotOf(bans[0]) })
	if n < 0 {
		return len(bans)
	}
	return n
}

// isBanned tells whether a ban names a node and one of its kids.
func (s *sieve) isBanned(node *api.Tree) bool {
	for pos, kid := range node.Kids {
		if _, is := slices.BinarySearch(s.Bans(node.Rule, pos), kid.Rule); is {
			return true
		}
	}
	return false
}
