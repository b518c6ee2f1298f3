package facts

import (
	"tracery/api"
)

func nullable(g api.Gram) []bool { return least(g, isNullable) }

func productive(g api.Gram) []bool { return least(g, hasByte) }

// isNullable tells it of a symbol of Nt -1: whatever its Set, it derives texts of one byte alone.
func isNullable(api.Set) bool { return false }

func hasByte(s api.Set) bool { return s != api.Set{} }

// symbolIs is whether a symbol is so: one of Nt -1 is asked by its Set, any other by its nonterminal.
func symbolIs(so []bool, setIs func(s api.Set) bool) func(s api.KSym) bool {
	return func(s api.KSym) bool {
		if s.Nt < 0 {
			return setIs(s.Set)
		}
		return so[s.Nt]
	}
}

// least tells of which nonterminals some rule has only symbols that are so.
func least(g api.Gram, setIs func(s api.Set) bool) []bool {
	so := make([]bool, g.Nts)
	isSo := symbolIs(so, setIs)
	users := usersOf(g)
	var again []int
	for r := range g.Rules {
		again = append(again, r)
	}
look:
	for at := 0; at < len(again); at++ {
		rule := g.Rules[again[at]]
		if so[rule.Lhs] {
			continue
		}
		for _, s := range rule.Rhs {
			if !isSo(s) {
				continue look
			}
		}
		so[rule.Lhs] = true
		again = append(again, users[rule.Lhs]...)
	}
	return so
}

// usersOf is, of each nonterminal, the rules in which it stands, once for each time.
func usersOf(g api.Gram) [][]int {
	users := make([][]int, g.Nts)
	for r, rule := range g.Rules {
		for _, s := range rule.Rhs {
			if s.Nt >= 0 {
				users[s.Nt] = append(users[s.Nt], r)
			}
		}
	}
	return users
}

func trim(g api.Gram) []int {
	isSo := symbolIs(productive(g), hasByte)
	var list []int
	for r, rule := range g.Rules {
		if all(rule.Rhs, isSo) {
			list = append(list, r)
		}
	}
	return list
}
