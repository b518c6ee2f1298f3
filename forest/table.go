package forest

import (
	"cmp"
	"iter"
	"slices"

	"tracery/api"
	"tracery/earley"
)

// part is what part nodes share that differ in their ends alone.
type part struct{ rule, dot, from int }

// whole is what symbol nodes share that differ in their beginnings alone.
type whole struct{ nt, to int }

// column is such nodes, so that the ways of a part are where a column of parts and one of wholes meet.
type column struct {
	nt, rule, dot int
	near          int     // the place that they share: of parts From, of wholes To
	far           []int   // of each node its other place, rising
	note          []int   // of each node what was noted of it: its count, or one more than its number; 0: nothing
	ways          [][]way // of each whole
}

// node is a node of the forest; the zero node is none.
type node struct {
	*column
	at int
}

func (n node) from() int {
	if n.dot < 0 {
		return n.far[n.at]
	}
	return n.near
}

func (n node) to() int {
	if n.dot < 0 {
		return n.near
	}
	return n.far[n.at]
}

// way is a way of a node; what lies to its left and right may be none.
type way struct {
	rule, mid   int
	left, right node
}

// table is all nodes that a text might have, what does not reach to its end among them.
type table struct {
	gram   api.Gram
	text   []byte
	parts  map[part]*column
	wholes map[whole]*column
}

func newTable(g api.Gram, w []byte) *table {
	t := &table{gram: g, text: w, parts: map[part]*column{}, wholes: map[whole]*column{}}
	chart, _ := earley.Chart(g, w)
	for to, items := range chart {
		t.addItems(items, to)
	}
	return t
}

// addItems adds what the items of a set stand for; they come by their rules' places, and a whole's ways stay so.
func (t *table) addItems(items []api.EItem, to int) {
	type end struct {
		from int
		way  way
	}
	var ends []end
	for _, item := range items {
		w := way{rule: item.Rule}
		if item.Dot > 0 {
			w.left = t.addPart(item, to)
		}
		if item.Dot == len(t.gram.Rules[item.Rule].Rhs) {
			ends = append(ends, end{item.From, w})
		}
	}
	slices.SortStableFunc(ends, func(a, b end) int { return cmp.Compare(a.from, b.from) })
	for _, e := range ends {
		t.addWhole(e.from, to, e.way)
	}
}

func (t *table) addPart(item api.EItem, to int) node {
	key := part{item.Rule, item.Dot, item.From}
	c := t.parts[key]
	if c == nil {
		c = &column{nt: -1, rule: item.Rule, dot: item.Dot, near: item.From}
		t.parts[key] = c
	}
	return c.add(to)
}

// addWhole adds a way of its rule's nonterminal.
func (t *table) addWhole(from, to int, w way) {
	nt := t.gram.Rules[w.rule].Lhs
	key := whole{nt, to}
	c := t.wholes[key]
	if c == nil {
		c = &column{nt: nt, rule: -1, dot: -1, near: to}
		t.wholes[key] = c
	}
	last := len(c.far) - 1
	if last < 0 || c.far[last] != from {
		last = c.add(from).at
		c.ways = append(c.ways, nil)
	}
	c.ways[last] = append(c.ways[last], w)
}

// add puts a node behind those that a column has.
func (c *column) add(far int) node {
	c.far = append(c.far, far)
	c.note = append(c.note, 0)
	return node{c, len(c.far) - 1}
}

// root is Start over all of the text, or none.
func (t *table) root() node {
	c := t.wholes[whole{t.gram.Start, len(t.text)}]
	if c == nil || c.far[0] != 0 {
		return node{}
	}
	return node{c, 0}
}

// waysOf goes through a node's ways, in their order.
func (t *table) waysOf(n node) iter.Seq[way] {
	if n.dot < 0 {
		return slices.Values(n.ways[n.at])
	}
	return t.waysOfPart(n)
}

func (t *table) waysOfPart(n node) iter.Seq[way] {
	left, lefts := t.ahead(n)
	right, rights := t.behind(n)
	return func(yield func(way) bool) {
		for i, j := range meet(lefts, rights) {
			w := way{rule: n.rule, mid: lefts[i]}
			if left != nil {
				w.left = node{left, i}
			}
			if right != nil {
				w.right = node{right, j}
			}
			if !yield(w) {
				return
			}
		}
	}
}

// ahead is the column of what stands ahead of a part's last symbol, none of its first one, and up to which places it reaches.
func (t *table) ahead(n node) (*column, []int) {
	if n.dot == 1 {
		return nil, []int{n.from()}
	}
	c := t.parts[part{n.rule, n.dot - 1, n.from()}]
	return c, c.far
}

// behind is the column of a part's last symbol, none of a byte, and from which places on it reaches to the part's end.
func (t *table) behind(n node) (*column, []int) {
	nt := t.gram.Rules[n.rule].Rhs[n.dot-1].Nt
	if nt < 0 {
		return nil, []int{n.to() - 1}
	}
	c := t.wholes[whole{nt, n.to()}]
	return c, c.far
}

// meet goes through the numbers under which two lists, neither empty, have the same place, rising.
func meet(a, b []int) iter.Seq2[int, int] {
	return func(yield func(int, int) bool) {
		i, _ := slices.BinarySearch(a, b[0])
		j, _ := slices.BinarySearch(b, a[0])
		for i < len(a) && j < len(b) {
			switch {
			case a[i] < b[j]:
				i++
			case a[i] > b[j]:
				j++
			default:
				if !yield(i, j) {
					return
				}
				i++
				j++
			}
		}
	}
}
