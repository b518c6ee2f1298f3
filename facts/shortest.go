package facts

import (
	"tracery/api"
)

// lengths is rules and nonterminals on the way to their shortest texts.
type lengths struct {
	gram    api.Gram
	known   []int // of each rule: how many bytes those of its symbols have in all whose shortest texts are known
	missing []int // of each rule: how many other symbols it has
	ready   [api.MaxInput + 1][]int
}

// shortest goes through the lengths as they rise, so that what is first found of a nonterminal is the least; what is not found up to MaxInput is longer.
func shortest(g api.Gram) []int {
	short := longer(g)
	users := usersOf(g)
	l := newLengths(g)
	for n := range l.ready {
		for at := 0; at < len(l.ready[n]); at++ {
			nt := l.ready[n][at]
			if short[nt] <= n {
				continue
			}
			short[nt] = n
			for _, r := range users[nt] {
				l.known[r] += n
				l.missing[r]--
				l.look(r)
			}
		}
	}
	return short
}

// longer is one more than MaxInput of what is productive, -1 of all others.
func longer(g api.Gram) []int {
	list := make([]int, g.Nts)
	for nt, so := range productive(g) {
		list[nt] = -1
		if so {
			list[nt] = api.MaxInput + 1
		}
	}
	return list
}

// newLengths knows of bytes alone.
func newLengths(g api.Gram) *lengths {
	l := &lengths{gram: g, known: make([]int, len(g.Rules)), missing: make([]int, len(g.Rules))}
	for r, rule := range g.Rules {
		for _, s := range rule.Rhs {
			if s.Nt < 0 && hasByte(s.Set) {
				l.known[r]++
			} else {
				l.missing[r]++
			}
		}
		l.look(r)
	}
	return l
}

// look notes a rule's nonterminal with its length, if nothing of the rule is missing.
func (l *lengths) look(r int) {
	if n := l.known[r]; l.missing[r] == 0 && n <= api.MaxInput {
		l.ready[n] = append(l.ready[n], l.gram.Rules[r].Lhs)
	}
}
