package lists

import (
	"slices"
	"testing"

	"tracery/api"
)

// origins are those of a list's two rules, and of one that is no list's.
func origins() []api.Origin {
	return []api.Origin{{Kind: api.OOne}, {Kind: api.OMore}, {Kind: api.OUser}}
}

// list is a list of so many parts, with so many kids between two; each part's Byte tells it apart.
func list(n, between int) api.Tree {
	t := api.Tree{Rule: 0, Kids: []api.Tree{{Rule: 2}}}
	for i := 1; i < n; i++ {
		kids := append([]api.Tree{t}, slices.Repeat([]api.Tree{{Rule: -1, Byte: ','}}, between)...)
		t = api.Tree{Rule: 1, Kids: append(kids, api.Tree{Rule: 2, Byte: byte(i)})}
	}
	return t
}

func TestParts(t *testing.T) {
	for _, n := range []int{1, 2, 3, 9, 1 << 20} {
		for between := range 4 {
			tree := list(n, between)
			parts := Parts(origins(), &tree)
			if len(parts) != n {
				t.Fatalf("%d parts, not %d", len(parts), n)
			}
			for i, part := range parts {
				if part.Rule != 2 || part.Byte != byte(i) {
					t.Fatalf("part %d of %d is %v", i, n, part)
				}
			}
		}
	}
}

// The nodes are those of the list itself, no copies; and a part that is a list is not gone into.
func TestPartsThemselves(t *testing.T) {
	tree := list(3, 1)
	tree.Kids[2] = list(2, 0)
	parts := Parts(origins(), &tree)
	if len(parts) != 3 || parts[2] != &tree.Kids[2] || parts[1] != &tree.Kids[0].Kids[2] || parts[0] != &tree.Kids[0].Kids[0].Kids[0] {
		t.Errorf("%v", parts)
	}
}

// Of a hole with a node that, of one with a list its parts, of one that is left out nothing; literals and gaps lie between.
func TestStanding(t *testing.T) {
	from := append(origins(), api.Origin{Kind: api.OUser, Syms: []int{0, 0, -1, 1, -1, 4, -1, 5}}, api.Origin{Kind: api.OGapNone})
	node := api.Tree{Rule: 3, Kids: []api.Tree{{Rule: -1, Byte: 'a'}, {Rule: -1, Byte: 'b'}, {Rule: 4}, {Rule: 2, Byte: 7}, {Rule: 4}, list(3, 1), {Rule: 4}, list(1, 0)}}
	if one := Standing(from, &node, 1); len(one) != 1 || one[0] != &node.Kids[3] {
		t.Error(one)
	}
	if parts := Standing(from, &node, 4); !slices.Equal(parts, Parts(from, &node.Kids[5])) || len(parts) != 3 {
		t.Error(parts)
	}
	if parts := Standing(from, &node, 5); len(parts) != 1 || parts[0] != &node.Kids[7].Kids[0] {
		t.Error(parts)
	}
	for _, hole := range []int{2, 3, 6} {
		if none := Standing(from, &node, hole); len(none) != 0 {
			t.Error(hole, none)
		}
	}
}
