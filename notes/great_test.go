package notes

import (
	"strconv"
	"testing"

	"tracery/api"
	"tracery/kernel"
	"tracery/trees"
)

// Trees that are deeper than any right term's: brackets within brackets, with a gap at each side.
func TestDeepTrees(t *testing.T) {
	d := must(t, most)
	k := made(t, d)
	bracket := treeOf(t, k, "E", "({a}1 )")
	for _, deep := range []int{1, 2, 1000, 1 << 16, 1 << 18} {
		tree := treeOf(t, k, "E", "1")
		for range deep {
			tree = api.Tree{Rule: bracket.Rule, Kids: []api.Tree{bracket.Kids[0], bracket.Kids[1], tree, bracket.Kids[3], bracket.Kids[4]}}
		}
		gaps, e1 := Gaps(d, tree)
		pieces, e2 := Pieces(d, tree)
		notes, e3 := Notes(d, tree)
		if e1 != api.OK || e2 != api.OK || e3 != api.OK || len(gaps) != 2*deep || len(pieces) != 2*deep+1 || len(notes) != deep {
			t.Fatalf("%d deep: %d gaps %d, %d pieces %d, %d notes %d", deep, len(gaps), e1, len(pieces), e2, len(notes), e3)
		}
		if string(gaps[deep-1]) != "{a}" || string(gaps[deep]) != " " || string(pieces[deep]) != "1" || notes[deep-1].Gap != deep-1 {
			t.Errorf("%d deep: %q %q %q %v", deep, gaps[deep-1], gaps[deep], pieces[deep], notes[deep-1])
		}
		full, code := Fill(d, tree, make([][]byte, 2*deep))
		if code != api.OK || len(trees.Yield(full)) != 2*deep+1 {
			t.Errorf("%d deep: %d", deep, code)
		}
	}
}

// Gaps of many nodes of Layout, which nest as often, and lists of many parts.
func TestLongTrees(t *testing.T) {
	d := must(t, small)
	k := made(t, d)
	blank, note := treeOf(t, k, "gap", " "), treeOf(t, k, "gap", "#a\n")
	for _, n := range []int{1, 2, 1 << 16, 1 << 18} {
		tree := treeOf(t, k, "top", "1+2")
		gap := tree.Kids[0]
		for i := range n {
			kind := blank
			if i%2 == 1 {
				kind = note
			}
			gap = api.Tree{Rule: kind.Rule, Kids: []api.Tree{gap, kind.Kids[1]}}
		}
		tree.Kids[0] = gap
		gaps, e1 := Gaps(d, tree)
		notes, e2 := Notes(d, tree)
		if e1 != api.OK || e2 != api.OK || len(gaps) != 4 || len(gaps[0]) != (n+1)/2+n/2*3 || len(notes) != n/2 {
			t.Errorf("%d nodes: %d bytes %d, %d notes %d", n, len(gaps[0]), e1, len(notes), e2)
		}
		if full, code := Fill(d, tree, [][]byte{nil, nil, nil, []byte(" ")}); code != api.OK || string(trees.Yield(full)) != "1+2 " {
			t.Errorf("%d nodes: %q %d", n, trees.Yield(full), code)
		}
	}
	d = must(t, most)
	k = made(t, d)
	for _, n := range []int{2, 1000, 1 << 18} {
		tree := treeOf(t, k, "E", "s1 ;{a}2.")
		more := tree.Kids[2]
		list := more
		for range n - 2 {
			list = api.Tree{Rule: more.Rule, Kids: append([]api.Tree{list}, more.Kids[1:]...)}
		}
		tree.Kids[2] = list
		gaps, e1 := Gaps(d, tree)
		pieces, e2 := Pieces(d, tree)
		notes, e3 := Notes(d, tree)
		if e1 != api.OK || e2 != api.OK || e3 != api.OK || len(gaps) != 2*n || len(pieces) != 2*n+1 || len(notes) != n-1 {
			t.Errorf("%d parts: %d gaps %d, %d pieces %d, %d notes %d", n, len(gaps), e1, len(pieces), e2, len(notes), e3)
		}
		if full, code := Fill(d, tree, gaps); code != api.OK || len(trees.Yield(full)) != len(trees.Yield(tree)) {
			t.Errorf("%d parts: %d", n, code)
		}
	}
}

// A definition of thousands of rules, whose chains ban very much, is answered soon, also where there are many gaps to be filled.
func TestGreatDefinition(t *testing.T) {
	text, prio := `start E; layout W; lex W = [\s]; lex W.Note = "#" [a-z0-9]* "\n"; cf E.C0 = "0"; cf E.L = "l" {E ","}+ "."; `, "prio left C0"
	for i := 1; i < api.MaxProds-5; i++ {
		text += "cf E.C" + strconv.Itoa(i) + ` = E? E? E? "x" E?; `
		if i%13 == 0 {
			prio += " > left"
		}
		prio += " C" + strconv.Itoa(i)
	}
	d := must(t, text+prio+";")
	none := d
	none.Chains = nil
	k := made(t, none)
	list := treeOf(t, k, `{E ","}+`, "0,0")
	more := list
	for range 2000 {
		list = api.Tree{Rule: more.Rule, Kids: append([]api.Tree{list}, more.Kids[1:]...)}
	}
	tree := treeOf(t, k, "top", "l0,0.")
	tree.Kids[1].Kids[2] = list
	gaps, code := Gaps(d, tree)
	if code != api.OK {
		t.Fatal(code)
	}
	for i := range gaps {
		gaps[i] = []byte("#" + strconv.Itoa(i) + "\n ")
	}
	full, code := Fill(d, tree, gaps)
	if code != api.OK {
		t.Fatal(code)
	}
	have, _ := Gaps(d, full)
	notes, code := Notes(d, full)
	if shown(have) != shown(gaps) || code != api.OK || len(notes) != len(gaps) || trees.Right(k.Gram, kernel.Sort(k, "E"), full.Kids[1]) != api.OK {
		t.Errorf("%d gaps, %d notes %d", len(have), len(notes), code)
	}
}
