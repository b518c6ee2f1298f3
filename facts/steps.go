package facts

import (
	"tracery/api"
	"tracery/charset"
)

func reach(g api.Gram) []bool {
	to := make([][]int, g.Nts)
	for _, rule := range g.Rules {
		for _, s := range rule.Rhs {
			if s.Nt >= 0 {
				to[rule.Lhs] = append(to[rule.Lhs], s.Nt)
			}
		}
	}
	reached := make([]bool, g.Nts)
	reached[g.Start] = true
	again := []int{g.Start}
	for at := 0; at < len(again); at++ {
		for _, nt := range to[again[at]] {
			if !reached[nt] {
				reached[nt] = true
				again = append(again, nt)
			}
		}
	}
	return reached
}

func first(g api.Gram) []api.Set {
	sets, takers := ownFirst(g)
	var again []int
	for nt := range g.Nts {
		again = append(again, nt)
	}
	for at := 0; at < len(again); at++ {
		nt := again[at]
		for _, taker := range takers[nt] {
			if !charset.Within(sets[nt], sets[taker]) {
				sets[taker] = charset.Union(sets[taker], sets[nt])
				again = append(again, taker)
			}
		}
	}
	return sets
}

// ownFirst is, of each nonterminal, the first bytes that its rules' Sets give, and those nonterminals that take its first bytes for theirs.
func ownFirst(g api.Gram) ([]api.Set, [][]int) {
	empty := nullable(g)
	sets := make([]api.Set, g.Nts)
	takers := make([][]int, g.Nts)
rules:
	for _, rule := range g.Rules {
		for _, s := range rule.Rhs {
			if s.Nt < 0 {
				sets[rule.Lhs] = charset.Union(sets[rule.Lhs], s.Set)
				continue rules
			}
			takers[s.Nt] = append(takers[s.Nt], rule.Lhs)
			if !empty[s.Nt] {
				continue rules
			}
		}
	}
	return sets, takers
}

// cyclic takes away each nonterminal to which no step leads, and its steps with it: what then stays leads to itself, or is led to by what does.
func cyclic(g api.Gram) bool {
	to := loneSteps(g)
	steps := make([]int, g.Nts)
	for _, list := range to {
		for _, nt := range list {
			steps[nt]++
		}
	}
	var gone []int
	for nt, n := range steps {
		if n == 0 {
			gone = append(gone, nt)
		}
	}
	for at := 0; at < len(gone); at++ {
		for _, nt := range to[gone[at]] {
			steps[nt]--
			if steps[nt] == 0 {
				gone = append(gone, nt)
			}
		}
	}
	return len(gone) < g.Nts
}

// loneSteps is, of each nonterminal, those that can be all of its text: all symbols beside them in a rule are nullable.
func loneSteps(g api.Gram) [][]int {
	mayBeEmpty := symbolIs(nullable(g), isNullable)
	to := make([][]int, g.Nts)
	for _, rule := range g.Rules {
		full := 0
		for _, s := range rule.Rhs {
			if !mayBeEmpty(s) {
				full++
			}
		}
		for _, s := range rule.Rhs {
			if s.Nt >= 0 && (full == 0 || full == 1 && !mayBeEmpty(s)) {
				to[rule.Lhs] = append(to[rule.Lhs], s.Nt)
			}
		}
	}
	return to
}
