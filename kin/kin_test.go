package kin

import (
	"fmt"
	"math"
	"reflect"
	"testing"

	"tracery/api"
)

func node(rule int, kids ...api.Tree) api.Tree { return api.Tree{Rule: rule, Kids: kids} }

func example() api.Tree {
	return node(1, node(2), node(3, node(-1, node(4)), node(5)), api.Tree{Rule: 6, Kids: []api.Tree{}})
}

func alike(a, b *api.Tree) bool { return a.Rule == b.Rule }

// all tells a tree's rules, each with how deep it lies.
func all(t api.Tree) string {
	text := ""
	for part, deep := range Parts(&t, OfTree) {
		text += fmt.Sprintf(" %d@%d", part.Rule, deep)
	}
	return text
}

func TestParts(t *testing.T) {
	tree := example()
	const want = " 1@1 2@2 3@2 -1@3 4@4 5@3 6@2"
	for n := 1; ; n++ { // one may stop wherever one likes
		text, left := "", n
		for part, deep := range Parts(&tree, OfTree) {
			text += fmt.Sprintf(" %d@%d", part.Rule, deep)
			if left--; left == 0 {
				break
			}
		}
		if text != want[:len(text)] {
			t.Fatalf("%s, not %s", text, want)
		}
		if len(text) == len(want) {
			break
		}
	}
	if all(node(7)) != " 7@1" {
		t.Error(all(node(7)))
	}
}

// What is told is the thing itself and what lies in it, no copies.
func TestPartsThemselves(t *testing.T) {
	tree := example()
	for part := range Parts(&tree, OfTree) {
		part.Byte = byte(10 + part.Rule)
	}
	if tree.Byte != 11 || tree.Kids[1].Kids[0].Byte != 9 || tree.Kids[1].Kids[0].Kids[0].Byte != 14 || tree.Kids[2].Byte != 16 {
		t.Errorf("%v", tree)
	}
}

func TestTerms(t *testing.T) {
	term := api.Term{Cons: "A", Kids: []api.Term{{Cons: "B"}, {Cons: "C", Kids: []api.Term{{Cons: "D"}}}}}
	text := ""
	for part, deep := range Parts(&term, OfTerm) {
		text += fmt.Sprintf(" %s@%d", part.Cons, deep)
	}
	if text != " A@1 B@2 C@2 D@3" {
		t.Error(text)
	}
	if size, deep := Size(term, OfTerm); size != 4 || deep != 3 {
		t.Error(size, deep)
	}
}

func TestDocs(t *testing.T) {
	doc := api.Doc{Text: "a", Kids: []api.Doc{{Text: "b", Kids: []api.Doc{{Text: "c"}}}, {Text: "d"}}}
	text := ""
	for part, deep := range Parts(&doc, OfDoc) {
		text += fmt.Sprintf(" %s@%d", part.Text, deep)
	}
	if text != " a@1 b@2 c@3 d@2" {
		t.Error(text)
	}
}

func TestSize(t *testing.T) {
	for _, c := range []struct {
		tree       api.Tree
		size, deep int
	}{{node(1), 1, 1}, {example(), 7, 4}, {node(1, node(2), node(3)), 3, 2}, {node(1, node(2, node(3)), node(4)), 4, 3}, {node(1, node(2), node(3, node(4))), 4, 3}} {
		if size, deep := Size(c.tree, OfTree); size != c.size || deep != c.deep {
			t.Errorf("%s: %d %d", all(c.tree), size, deep)
		}
	}
}

func TestSame(t *testing.T) {
	list := []api.Tree{example(), node(1), node(2), node(1, node(1)), node(1, node(2)), node(1, node(1), node(1)), node(1, node(1, node(1))), node(1, node(2), node(3)), node(1, node(3), node(2)), node(1, node(2, node(3)))}
	for i, a := range list {
		for j, b := range list {
			if Same(a, b, OfTree, alike) != (i == j) {
				t.Errorf("%s and %s", all(a), all(b))
			}
		}
	}
	if !Same(node(1), api.Tree{Rule: 1, Byte: 7, Kids: []api.Tree{}}, OfTree, alike) || !Same(example(), example(), OfTree, alike) {
		t.Error("the same things are not")
	}
}

// A copy has lists of its own, none of which reaches into another one.
func TestClone(t *testing.T) {
	shared := []api.Tree{node(4), node(5, node(6))}
	tree := node(1, api.Tree{Rule: 2, Kids: shared}, api.Tree{Rule: 3, Kids: shared})
	before := all(tree)
	copied := Clone(tree, OfTree)
	if all(copied) != before {
		t.Fatalf("%s, not %s", all(copied), before)
	}
	for part := range Parts(&copied, OfTree) {
		if len(part.Kids) != cap(part.Kids) {
			t.Errorf("a list of %d reaches up to %d", len(part.Kids), cap(part.Kids))
		}
	}
	copied = Clone(tree, OfTree)
	copied.Kids[0].Kids[1].Kids[0].Rule = 7
	copied.Kids[0].Kids[0].Rule = 8
	if all(tree) != before || all(copied.Kids[1]) != " 3@1 4@2 5@2 6@3" {
		t.Errorf("%s, %s", all(tree), all(copied))
	}
	for _, kids := range [][]api.Tree{nil, {}, {node(2), node(3)}} {
		if none := Clone(node(1, kids[:0]...), OfTree); none.Kids != nil || none.Rule != 1 { // what lies behind a list is not handed out
			t.Errorf("%v", none)
		}
	}
}

func TestAtAndPut(t *testing.T) {
	tree := example()
	for _, c := range []struct {
		path     []int
		at, with string
	}{
		{nil, " 1@1 2@2 3@2 -1@3 4@4 5@3 6@2", " 8@1 9@2"},
		{[]int{0}, " 2@1", " 1@1 8@2 9@3 3@2 -1@3 4@4 5@3 6@2"},
		{[]int{1}, " 3@1 -1@2 4@3 5@2", " 1@1 2@2 8@2 9@3 6@2"},
		{[]int{1, 0, 0}, " 4@1", " 1@1 2@2 3@2 -1@3 8@4 9@5 5@3 6@2"},
		{[]int{2}, " 6@1", " 1@1 2@2 3@2 -1@3 4@4 5@3 8@2 9@3"},
	} {
		put := node(8, node(9))
		at, e1 := At(tree, c.path, OfTree)
		with, e2 := Put(tree, c.path, put, OfTree)
		if e1 != api.OK || e2 != api.OK || all(at) != c.at || all(with) != c.with {
			t.Errorf("%v: %s %d, %s %d", c.path, all(at), e1, all(with), e2)
		}
		for _, answer := range []*api.Tree{&at, &with} {
			for part := range Parts(answer, OfTree) {
				part.Rule = 77
			}
		}
		if !reflect.DeepEqual(tree, example()) || put.Kids[0].Rule != 9 {
			t.Fatalf("%v: %s, %s", c.path, all(tree), all(put))
		}
	}
	for _, path := range [][]int{{3}, {-1}, {0, 0}, {1, 2}, {1, -1}, {2, 0}, {math.MaxInt}, {math.MinInt}, {1, 0, 0, 0}} {
		at, e1 := At(tree, path, OfTree)
		with, e2 := Put(tree, path, node(8), OfTree)
		if e1 != api.ErrNone || e2 != api.ErrNone || !reflect.DeepEqual(at, api.Tree{}) || !reflect.DeepEqual(with, api.Tree{}) {
			t.Errorf("%v: %s %d, %s %d", path, all(at), e1, all(with), e2)
		}
	}
	if !reflect.DeepEqual(tree, example()) {
		t.Error(all(tree))
	}
}
