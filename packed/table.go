package packed

import (
	"cmp"
	"iter"
	"slices"

	"tracery/api"
	"tracery/earley"
)

// part is what part nodes share that differ in their ends alone.
type part struct{ rule, dot, from int }

// whole is what symbol nodes share that differ in their beginnings alone.
type whole struct {
	nt, to int
	ban    int // the number of the list of rules that are banned
}

// column is such nodes, so that the ways of a part are where a column of parts and one of wholes meet.
type column struct {
	nt, rule, dot int
	near          int     // the place that they share: of parts From, of wholes To
	ban           int     // the number of the list of rules that are banned: of parts in their last symbol's place
	far           []int   // of each node its other place, rising
	trees         []int   // of each node one more than how many trees it has; 0: it was not counted
	number        []int   // of each node one more than its number; 0: it has none; nil: none of them has one
	ways          [][]way // of each whole
}

// node is a node of the forest; the zero node is none.
type node struct {
	*column
	at int
}

func (n node) from() int {
	if n.dot < 0 {
		return n.far[n.at]
	}
	return n.near
}

func (n node) to() int {
	if n.dot < 0 {
		return n.near
	}
	return n.far[n.at]
}

// way is a way of a node; what lies to its left and right may be none.
type way struct {
	rule, mid   int
	left, right node
}

// Table is all nodes that a text might have, those without trees and those that do not reach to its end among them.
type Table struct {
	gram    api.Gram
	text    []byte
	sieve   Sieve
	bans    bans
	parts   map[part]*column
	wholes  map[whole]*column
	dropped bool // was there a whole that may not stand where it is?
}

// New looks a text through; the grammar is right and not cyclic, the text not too long.
func New(g api.Gram, w []byte, s Sieve) *Table {
	t := &Table{gram: g, text: w, sieve: s, bans: newBans(), parts: map[part]*column{}, wholes: map[whole]*column{}}
	chart, _ := earley.Chart(g, w)
	if !t.accepted(chart[len(w)]) {
		return t // what a sieve tells may cost more than the chart
	}
	for to, items := range chart {
		t.addItems(items, to)
	}
	return t
}

// accepted tells whether the items of the last set have all of a rule of Start, over all of the text.
func (t *Table) accepted(last []api.EItem) bool {
	return slices.ContainsFunc(last, func(item api.EItem) bool {
		rule := t.gram.Rules[item.Rule]
		return rule.Lhs == t.gram.Start && item.From == 0 && item.Dot == len(rule.Rhs)
	})
}

// addItems adds what the items of a set stand for; they come by their rules' places, and a whole's ways stay so.
func (t *Table) addItems(items []api.EItem, to int) {
	type end struct {
		from int
		way  way
	}
	var ends []end
	for _, item := range items {
		w := way{rule: item.Rule}
		if item.Dot > 0 {
			w.left = t.addPart(item, to)
		}
		if item.Dot == len(t.gram.Rules[item.Rule].Rhs) {
			ends = append(ends, end{item.From, w})
		}
	}
	slices.SortStableFunc(ends, func(a, b end) int { return cmp.Compare(a.from, b.from) })
	for _, e := range ends {
		t.addWhole(e.from, to, e.way)
	}
}

func (t *Table) addPart(item api.EItem, to int) node {
	key := part{item.Rule, item.Dot, item.From}
	c := t.parts[key]
	if c == nil {
		c = &column{nt: -1, rule: item.Rule, dot: item.Dot, near: item.From, ban: t.bans.at(item.Rule, item.Dot-1, t.sieve)}
		t.parts[key] = c
	}
	return c.add(to)
}

// addWhole adds a way of its rule's nonterminal, if that may stand there.
func (t *Table) addWhole(from, to int, w way) {
	nt := t.gram.Rules[w.rule].Lhs
	if !t.sieve.Keeps(nt, from, to) {
		t.dropped = true
		return
	}
	key := whole{nt: nt, to: to}
	c := t.wholes[key]
	if c == nil {
		c = &column{nt: nt, rule: -1, dot: -1, near: to}
		t.wholes[key] = c
	}
	last := len(c.far) - 1
	if last < 0 || c.far[last] != from {
		last = c.add(from).at
		c.ways = append(c.ways, nil)
	}
	c.ways[last] = append(c.ways[last], w)
}

// add puts a node behind those that a column has.
func (c *column) add(far int) node {
	c.far = append(c.far, far)
	c.trees = append(c.trees, 0)
	return node{c, len(c.far) - 1}
}

// root is Start over all of the text, or none.
func (t *Table) root() node {
	c := t.wholes[whole{nt: t.gram.Start, to: len(t.text)}]
	if c == nil || c.far[0] != 0 {
		return node{}
	}
	return node{c, 0}
}

// waysOf goes through a node's ways, in their order; some may have no trees.
func (t *Table) waysOf(n node) iter.Seq[way] {
	if n.dot < 0 {
		return slices.Values(n.ways[n.at])
	}
	return t.waysOfPart(n)
}

func (t *Table) waysOfPart(n node) iter.Seq[way] {
	left, lefts := t.ahead(n)
	right, rights := t.behind(n)
	return func(yield func(way) bool) {
		for i, j := range meet(lefts, rights) {
			w := way{rule: n.rule, mid: lefts[i]}
			if left != nil {
				w.left = node{left, i}
			}
			if right != nil {
				w.right = node{right, j}
			}
			if !yield(w) {
				return
			}
		}
	}
}

// ahead is the column of what stands ahead of a part's last symbol, none of its first one, and up to which places it reaches.
func (t *Table) ahead(n node) (*column, []int) {
	if n.dot == 1 {
		return nil, []int{n.from()}
	}
	c := t.parts[part{n.rule, n.dot - 1, n.from()}]
	return c, c.far
}

// behind is the column of a part's last symbol, none of a byte, and from which places on it reaches to the part's end.
func (t *Table) behind(n node) (*column, []int) {
	nt := t.gram.Rules[n.rule].Rhs[n.dot-1].Nt
	if nt < 0 {
		return nil, []int{n.to() - 1}
	}
	c := t.whole(whole{nt, n.to(), n.ban})
	if c == nil {
		return nil, nil
	}
	return c, c.far
}

// meet goes through the numbers under which two lists have the same place, rising.
func meet(a, b []int) iter.Seq2[int, int] {
	return func(yield func(int, int) bool) {
		if len(a) == 0 || len(b) == 0 {
			return
		}
		i, _ := slices.BinarySearch(a, b[0])
		j, _ := slices.BinarySearch(b, a[0])
		for i < len(a) && j < len(b) {
			switch {
			case a[i] < b[j]:
				i++
			case a[i] > b[j]:
				j++
			default:
				if !yield(i, j) {
					return
				}
				i++
				j++
			}
		}
	}
}
