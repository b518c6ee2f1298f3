package packed

import (
	"slices"
)

// spot is a symbol's place in a rule.
type spot struct{ rule, pos int }

// bans is the lists of rules that are banned somewhere. Those that are the same have one number, and so have nodes that are alike but for the rule above them; the empty list has the number 0.
type bans struct {
	lists  [][]int
	number map[string]int
	above  map[spot]int // of a symbol's place one more than its list's number
}

func newBans() bans {
	return bans{lists: [][]int{nil}, number: map[string]int{"": 0}, above: map[spot]int{}}
}

// at is the number of the list of a symbol's place.
func (b *bans) at(rule, pos int, s Sieve) int {
	key := spot{rule, pos}
	if b.above[key] == 0 {
		b.above[key] = b.numberOf(s.Bans(rule, pos)) + 1
	}
	return b.above[key] - 1
}

func (b *bans) numberOf(list []int) int {
	var key []byte
	for _, rule := range list {
		key = append(key, byte(rule), byte(rule>>8)) // MaxRules is below 65536
	}
	number, met := b.number[string(key)]
	if !met {
		number = len(b.lists)
		b.number[string(key)] = number
		b.lists = append(b.lists, slices.Clone(list))
	}
	return number
}

// whole is the column of these symbol nodes, nil, if there is none. Those with bans are made of those without as they are asked for.
func (t *Table) whole(key whole) *column {
	c, made := t.wholes[key]
	if !made {
		c = t.wholes[whole{nt: key.nt, to: key.to}].without(t.bans.lists[key.ban], key.ban)
		t.wholes[key] = c
	}
	return c
}

// without is the nodes of a column that have a way of other rules than these, with just such ways.
func (c *column) without(rules []int, ban int) *column {
	if c == nil {
		return nil
	}
	less := &column{nt: c.nt, rule: c.rule, dot: c.dot, near: c.near, ban: ban}
	isBanned := func(w way) bool {
		_, is := slices.BinarySearch(rules, w.rule)
		return is
	}
	for at, from := range c.far {
		if ways := slices.DeleteFunc(slices.Clone(c.ways[at]), isBanned); len(ways) > 0 {
			less.add(from)
			less.ways = append(less.ways, ways)
		}
	}
	return less
}
