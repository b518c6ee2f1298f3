package notes

import (
	"fmt"
	"math"
	"slices"
	"strings"
	"testing"

	"tracery/api"
	"tracery/ast"
	"tracery/defs"
	"tracery/forest"
	"tracery/kernel"
	"tracery/terms"
	"tracery/trees"
)

// small is the chapter's example.
const small = `start E; layout W; cf E.A = N "+" N; lex N = [0-9]; lex W = " "; lex W.Note = "#" [a-z]* "\n";`

// most has each kind of hole, brackets, and a layout of several productions, with a Cons and without one; Wrap has others in it, and N.Text has some in a lexeme.
const most = `start E; layout W; cf E.Num = N; cf E.Add = E "+" E; cf E.Opt = "o" E? "," N?; cf E.Star = "s" {E ";"}* "."; cf E.Plus = "p" N+ "."; cf E.Nil = "nil"; cf E = "(" E ")" bracket; cf E = "<" "<" E ">>" bracket;
	lex N = [0-9]; lex N.Text = "'" W "'"; lex W = [\s\n\t]; lex W.Note = "#" [a-z]* "\n"; lex W.Block = "{" [a-z\s]* "}"; lex W.Wrap = "[" W* "]"; lex W = "--"; prio left Add; follow N [a];`

// bare is without a layout.
const bare = `start E; cf E.Num = N; cf E.Add = E "+" E; cf E.Star = "s" {E ";"}* "."; cf E = "(" E ")" bracket; lex N = [0-9\s]; lex W.Note = [\s];`

func must(t testing.TB, text string) api.Def {
	t.Helper()
	d, fault := defs.Parse(text)
	if fault.Code != api.OK {
		t.Fatalf("%.300q: %v", text, fault)
	}
	return d
}

func made(t testing.TB, d api.Def) api.Kern {
	t.Helper()
	k, code := kernel.Make(d)
	if code != api.OK {
		t.Fatal(code)
	}
	return k
}

// treeOf is the first tree of a sort, a list, the gap or the top over a text.
func treeOf(t testing.TB, k api.Kern, name, text string) api.Tree {
	t.Helper()
	g := k.Gram
	g.Start = slices.Index(k.Names, name)
	list, code := forest.Trees(g, []byte(text), 1)
	if code != api.OK || len(list) == 0 {
		t.Fatalf("%q of %s: %d", text, name, code)
	}
	return list[0]
}

// shown is texts with bars between them.
func shown(list [][]byte) string {
	var texts []string
	for _, b := range list {
		texts = append(texts, string(b))
	}
	return strings.Join(texts, "|")
}

// told is notes in a row.
func told(list []api.Note) string {
	var texts []string
	for _, n := range list {
		texts = append(texts, fmt.Sprintf("%d%s%s", n.Gap, n.Cons, n.Text))
	}
	return strings.Join(texts, "|")
}

// texts is what shown makes of a list, with how many there are.
func texts(list ...string) [][]byte {
	out := [][]byte{}
	for _, text := range list {
		out = append(out, []byte(text))
	}
	return out
}

// The chapter's example.
func TestExamples(t *testing.T) {
	d := must(t, small)
	tree := treeOf(t, made(t, d), "top", "1 +#a\n2")
	gaps, e1 := Gaps(d, tree)
	pieces, e2 := Pieces(d, tree)
	notes, e3 := Notes(d, tree)
	if e1 != api.OK || e2 != api.OK || e3 != api.OK || len(gaps) != 4 || shown(gaps) != "| |#a\n|" || len(pieces) != 5 || shown(pieces) != "|1|+|2|" || len(notes) != 1 || told(notes) != "2Note#a\n" {
		t.Errorf("%q %d, %q %d, %q %d", gaps, e1, pieces, e2, told(notes), e3)
	}
}

// P16.1: gaps, pieces and notes of trees of sorts and of the top.
func TestGaps(t *testing.T) {
	for _, c := range []struct {
		def, name, text string
		n               int // how many gaps there are
		gaps, pieces    string
		notes           string
	}{
		// ahead of the first byte, behind the last one, in between: empty or not
		{most, "top", "1", 2, "|", "|1|", ""}, {most, "top", " 1\n", 2, " |\n", "|1|", ""}, {most, "top", "  \t1", 2, "  \t|", "|1|", ""}, {most, "top", "1--\n", 2, "|--\n", "|1|", ""},
		{most, "E", "1", 0, "", "1", ""}, {most, "E", "1+2", 2, "|", "1|+|2", ""}, {most, "E", "1 + 2", 2, " | ", "1|+|2", ""}, {most, "top", "1+2 + 3", 6, "||| | |", "|1|+|2|+|3|", ""}, {most, "E", "nil", 0, "", "nil", ""},
		// no node but the gap's is one, whatever it yields
		{most, "N", "1", 0, "", "1", ""}, {most, "N", "' '", 0, "", "' '", ""}, {most, "N", "'#a\n'", 0, "", "'#a\n'", ""}, {most, "W", " ", 0, "", " ", ""}, {most, "W", "#a\n", 0, "", "#a\n", ""}, {most, "W", "[ #a\n]", 0, "", "[ #a\n]", ""}, {most, "top", "'#a\n'#b\n", 2, "|#b\n", "|'#a\n'|", "1Note#b\n"},
		// several nodes of Layout in one gap, with notes among them
		{most, "top", "#a\n#b\n1", 2, "#a\n#b\n|", "|1|", "0Note#a\n|0Note#b\n"}, {most, "top", " #a\n {b c} 1{}#\n--", 2, " #a\n {b c} |{}#\n--", "|1|", "0Note#a\n|0Block{b c}|1Block{}|1Note#\n"}, {most, "E", "1{a}+{b}{c}2", 2, "{a}|{b}{c}", "1|+|2", "0Block{a}|1Block{b}|1Block{c}"},
		// notes within a note are none
		{most, "top", "[]1[ #a\n[{b}]]{c}", 2, "[]|[ #a\n[{b}]]{c}", "|1|", "0Wrap[]|1Wrap[ #a\n[{b}]]|1Block{c}"},
		// options, lists, brackets
		{most, "E", "o ,", 1, " ", "o|,", ""}, {most, "E", "o 1{a},\n2", 3, " |{a}|\n", "o|1|,|2", "1Block{a}"}, {most, "E", "s .", 1, " ", "s|.", ""}, {most, "E", "s1 ; #a\n2;3.", 6, "| | #a\n|||", "s|1|;|2|;|3|.", "2Note#a\n"}, {most, "E", "p 1 2{a}.", 3, " | |{a}", "p|1|2|.", "2Block{a}"}, {most, "E", "( 1{a})", 2, " |{a}", "(|1|)", "1Block{a}"}, {most, "E", "<\n<({a}1)>>", 5, "\n||{a}||", "<|<|(|1|)|>>", "2Block{a}"},
		// no layout
		{bare, "top", "1", 0, "", "1", ""}, {bare, "E", "s1; ;(2+ ).", 0, "", "s1; ;(2+ ).", ""}, {bare, "W", " ", 0, "", " ", ""},
		{small, "top", " 1+2#\n", 4, " |||#\n", "|1|+|2|", "3Note#\n"}, {small, "E", "1+2", 2, "|", "1|+|2", ""}, {small, "N", "1", 0, "", "1", ""},
	} {
		d := must(t, c.def)
		tree := treeOf(t, made(t, d), c.name, c.text)
		gaps, e1 := Gaps(d, tree)
		pieces, e2 := Pieces(d, tree)
		notes, e3 := Notes(d, tree)
		if e1 != api.OK || len(gaps) != c.n || shown(gaps) != c.gaps {
			t.Errorf("%q: gaps %q %d", c.text, gaps, e1)
		}
		if e2 != api.OK || len(pieces) != c.n+1 || shown(pieces) != c.pieces {
			t.Errorf("%q: pieces %q %d", c.text, pieces, e2)
		}
		if e3 != api.OK || told(notes) != c.notes {
			t.Errorf("%q: notes %q %d", c.text, told(notes), e3)
		}
		followsOf(t, d, tree)
	}
}

// P16.2: gaps filled with others, as many as there are and not as many.
func TestFill(t *testing.T) {
	for _, c := range []struct {
		def, name, text string
		gaps            [][]byte
		want            string
		code            api.Errno
	}{
		{small, "top", "1 +#a\n2", texts("", "", "", ""), "1+2", api.OK}, {small, "top", "1 +#a\n2", texts(" ", "#x\n", "  ", "#\n#\n"), " 1#x\n+  2#\n#\n", api.OK}, {small, "E", "1 +#a\n2", texts("  ", ""), "1  +2", api.OK}, {small, "top", "1+2", [][]byte{nil, {}, nil, []byte(" ")}, "1+2 ", api.OK},
		// one fewer, one more, none, many
		{small, "top", "1+2", texts("", "", ""), "", api.ErrArg}, {small, "top", "1+2", texts("", "", "", "", ""), "", api.ErrArg}, {small, "top", "1+2", nil, "", api.ErrArg}, {small, "top", "1+2", make([][]byte, 100000), "", api.ErrArg}, {small, "N", "1", texts(""), "", api.ErrArg}, {small, "N", "1", nil, "1", api.OK}, {small, "W", "#a\n", texts(), "#a\n", api.OK}, {small, "W", "#a\n", texts("#a\n"), "", api.ErrArg},
		{bare, "top", "1+2", nil, "1+2", api.OK}, {bare, "top", "1+2", texts(), "1+2", api.OK}, {bare, "top", "1+2", texts(""), "", api.ErrArg}, {bare, "E", "s1; .", texts(), "s1; .", api.OK},
		// what the gap does not derive, at each place
		{small, "top", "1+2", texts("\n", "", "", ""), "", api.ErrGap}, {small, "top", "1+2", texts("", "#a", "", ""), "", api.ErrGap}, {small, "top", "1+2", texts("", "", " #A\n", ""), "", api.ErrGap}, {small, "top", "1+2", texts("", "", "", "1"), "", api.ErrGap}, {small, "top", "1+2", texts("", "", "\x00", "\xff"), "", api.ErrGap},
		// both: how many there are is asked first
		{small, "top", "1+2", texts("\n"), "", api.ErrArg}, {small, "top", "1+2", texts("x", "x", "x", "x", "x"), "", api.ErrArg}, {bare, "top", "1+2", texts("x"), "", api.ErrArg},
		{most, "E", "s1;2{a}.", texts(" ", "{}", "[[]]", "--\t"), "s 1{};[[]]2--\t.", api.OK}, {most, "E", "<<(1)>>", texts(" ", " ", "{a}", "{b}", "\n"), "< < ({a}1{b})\n>>", api.OK},
	} {
		d := must(t, c.def)
		tree := treeOf(t, made(t, d), c.name, c.text)
		full, code := Fill(d, tree, c.gaps)
		if code != c.code || string(trees.Yield(full)) != c.want || code != api.OK && !trees.Same(full, api.Tree{}) {
			t.Errorf("%q with %.100q: %q %d, not %q %d", c.text, c.gaps, trees.Yield(full), code, c.want, c.code)
		}
		if code == api.OK {
			filledRight(t, d, tree, c.gaps)
		}
	}
}

// P16.2: a gap of MaxInput bytes, and of one more.
func TestLongGaps(t *testing.T) {
	for _, c := range []struct {
		def, unit string
	}{{small, " "}, {most, "-"}, {most, "#"}} {
		d := must(t, c.def)
		tree := treeOf(t, made(t, d), "top", map[string]string{small: "1+2", most: "1"}[c.def])
		gaps, _ := Gaps(d, tree)
		for _, n := range []int{0, 1, 2, 510, 511, api.MaxInput, api.MaxInput + 1, api.MaxInput + 2, 1 << 16} {
			text, want := strings.Repeat(c.unit, n), api.OK
			switch c.unit {
			case "-":
				if n%2 == 1 {
					want = api.ErrGap
				}
			case "#":
				text = strings.Repeat("#\n", n/2)
			}
			if len(text) > api.MaxInput {
				want = api.ErrGap
			}
			for at := range gaps {
				list := slices.Clone(gaps)
				list[at] = []byte(text)
				full, code := Fill(d, tree, list)
				if code != want || (len(trees.Yield(full)) == len(trees.Yield(tree))+len(text)) != (want == api.OK) {
					t.Errorf("%d bytes: %d bytes, %d", len(text), len(trees.Yield(full)), code)
				}
				if code == api.OK && n > 100 {
					notes, _ := Notes(d, full)
					if have := len(notes); c.unit == "#" && have != n/2 || c.unit != "#" && have != 0 {
						t.Errorf("%d bytes: %d notes", len(text), have)
					}
				}
			}
		}
	}
	// a gap that a tree has may be longer than one with which it can be filled
	d := must(t, small)
	k := made(t, d)
	tree := treeOf(t, k, "top", "1+2")
	gap, one := treeOf(t, k, "gap", ""), treeOf(t, k, "W", " ")
	more := treeOf(t, k, "gap", " ").Rule
	for range api.MaxInput + 1 {
		gap = api.Tree{Rule: more, Kids: []api.Tree{gap, one}}
	}
	tree.Kids[2] = gap
	gaps, _ := Gaps(d, tree)
	if _, code := Fill(d, tree, gaps); len(gaps) != 4 || len(gaps[3]) != api.MaxInput+1 || code != api.ErrGap {
		t.Errorf("%d gaps, %d", len(gaps), code)
	}
}

// P16.2: of several trees of a gap the first one is taken, whatever it was ahead.
func TestFirstTree(t *testing.T) {
	d := must(t, `start E; layout W; cf E.A = "a" "b"; lex W = " " " " | " "; lex W.Note = [\s]+; lex W.Long = V V; lex V = [\s]* " "; lex W = "c";`)
	k := made(t, d)
	g := k.Gram
	g.Start = slices.Index(k.Names, "gap")
	for _, text := range []string{"", " ", "  ", "   ", " c  c    ", "     "} {
		list, _ := forest.Trees(g, []byte(text), api.MaxTrees)
		for _, name := range []string{"E", "top"} {
			tree := treeOf(t, k, name, "a b")
			gaps, _ := Gaps(d, tree)
			for i := range gaps {
				gaps[i] = []byte(text)
			}
			first, code := Fill(d, tree, gaps)
			if code != api.OK {
				t.Fatalf("%q: %d", text, code)
			}
			l := &language{k}
			for gap := range l.gaps(&first) {
				if !trees.Same(*gap, list[0]) {
					t.Errorf("%q: another tree than the first one", text)
				}
			}
			for _, other := range list { // what the gap was is of no matter
				changed, _ := trees.At(first, nil)
				for gap := range l.gaps(&changed) {
					*gap = other
				}
				if again, code := Fill(d, changed, gaps); code != api.OK || !trees.Same(again, first) {
					t.Errorf("%q: %d", text, code)
				}
			}
		}
	}
}

// refused is definitions that kernel.Make refuses.
func refused(t *testing.T) []api.Def {
	ring := []api.Item{{Kind: api.BGroup}}
	ring[0].Items = ring
	var list []api.Def
	for _, change := range []func(d *api.Def){
		func(d *api.Def) { *d = api.Def{} },
		func(d *api.Def) { d.Start = "" }, func(d *api.Def) { d.Start = "N" }, func(d *api.Def) { d.Layout = "E" }, func(d *api.Def) { d.Layout = "X" }, func(d *api.Def) { d.Layout = "\x00" },
		func(d *api.Def) { d.Prods = nil }, func(d *api.Def) { d.Prods[0].Syms = nil }, func(d *api.Def) { d.Prods[0].Syms[0].Kind = 9 }, func(d *api.Def) { d.Prods[0].Syms[0].Name = "X" }, func(d *api.Def) { d.Prods[0].Syms[0].Name = "W" }, func(d *api.Def) { d.Prods[2].Lex = false }, func(d *api.Def) { d.Prods[3].Syms[0].Text = "" }, func(d *api.Def) { d.Prods = make([]api.Prod, api.MaxProds+1) },
		func(d *api.Def) { d.Chains = [][]api.Group{nil} }, func(d *api.Def) { d.Chains = [][]api.Group{{{Cons: []string{"Note"}}}} },
		func(d *api.Def) { d.Follows = []api.Follow{{Sort: "N"}} }, func(d *api.Def) { d.Rejects = []api.Reject{{}} }, func(d *api.Def) { d.Boxes = []api.Box{{Cons: "Note"}} }, func(d *api.Def) { d.Boxes = []api.Box{{Cons: "A", Items: ring}} },
	} {
		d := must(t, small)
		change(&d)
		list = append(list, d)
	}
	return list
}

// tells looks whether all calls tell an error, and nothing beside it.
func tells(t *testing.T, d api.Def, tree api.Tree, want api.Errno) {
	t.Helper()
	gaps, e1 := Gaps(d, tree)
	pieces, e2 := Pieces(d, tree)
	notes, e3 := Notes(d, tree)
	if e1 != want || e2 != want || e3 != want || len(gaps) != 0 || len(pieces) != 0 || len(notes) != 0 {
		t.Errorf("%.200v: %d %d %d, not %d", tree, e1, e2, e3, want)
	}
	for _, gaps := range [][][]byte{nil, texts(""), texts("x"), texts("", "", "", ""), texts("", "x", "", ""), texts(strings.Repeat(" ", 999))} {
		if full, code := Fill(d, tree, gaps); code != want || !trees.Same(full, api.Tree{}) {
			t.Errorf("%.200v: %d, not %d", tree, code, want)
		}
	}
}

// P16.1: definitions that are refused, and trees that are none.
func TestErrors(t *testing.T) {
	right := made(t, must(t, small))
	for _, d := range refused(t) {
		for _, tree := range []api.Tree{{}, {Rule: -1}, {Rule: 99}, treeOf(t, right, "top", "1 +#a\n2"), treeOf(t, right, "gap", " ")} {
			tells(t, d, tree, api.ErrDef)
		}
	}
	for _, def := range []string{small, most, bare} {
		d := must(t, def)
		k := made(t, d)
		wrong := []api.Tree{{}, {Rule: -1}, {Rule: -1, Byte: '1'}, {Rule: -2}, {Rule: math.MinInt}, {Rule: math.MaxInt}, {Rule: len(k.Gram.Rules)}}
		text := "1+2"
		if def != bare {
			// the gap's own nonterminal is neither a sort nor the top, and so are lists
			wrong = append(wrong, treeOf(t, k, "gap", ""), treeOf(t, k, "gap", " #a\n"), treeOf(t, k, "[a-z]+", "ab"))
			text = " 1 +#a\n2 #b\n"
		}
		if def == most {
			wrong = append(wrong, treeOf(t, k, `{E ";"}+`, "1 ;2"), treeOf(t, k, "N+", "1 2"), treeOf(t, k, "W+", "  "))
		}
		whole := treeOf(t, k, "top", text)
		for path := range allPaths(whole) {
			for _, put := range []api.Tree{{}, {Rule: -1}, {Rule: 99999}, {Rule: -1, Byte: '!'}, {Rule: -1, Byte: '0', Kids: []api.Tree{{}}}, {Rule: len(k.Gram.Rules) - 2, Byte: 1}} {
				if changed, _ := trees.Put(whole, path, put); !trees.Same(changed, whole) {
					wrong = append(wrong, changed)
				}
			}
		}
		for _, tree := range wrong {
			tells(t, d, tree, api.ErrTree)
		}
	}
}

// allPaths goes through the paths of a tree.
func allPaths(t api.Tree) func(yield func([]int) bool) {
	return func(yield func([]int) bool) {
		waiting := [][]int{nil}
		for len(waiting) > 0 {
			path := waiting[0]
			waiting = waiting[1:]
			if !yield(path) {
				return
			}
			part, _ := trees.At(t, path)
			for i := range part.Kids {
				waiting = append(waiting, append(slices.Clone(path), i))
			}
		}
	}
}

// followsOf looks at what follows of the promises for a tree: P16.3, P16.5 and P16.6.
func followsOf(t *testing.T, d api.Def, tree api.Tree) {
	t.Helper()
	gaps, _ := Gaps(d, tree)
	pieces, _ := Pieces(d, tree)
	notes, _ := Notes(d, tree)
	yield := string(trees.Yield(tree))
	if len(pieces) != len(gaps)+1 || mixed(pieces, gaps) != yield {
		t.Fatalf("%q: %q %q", yield, pieces, gaps)
	}
	at, last := 0, 0 // up to where the gap's bytes are notes' already
	for _, n := range notes {
		if n.Gap != last {
			at = 0
		}
		if n.Gap < last || n.Gap >= len(gaps) || n.Cons == "" || len(n.Text) == 0 {
			t.Fatalf("%q: %q", yield, told(notes))
		}
		place := strings.Index(string(gaps[n.Gap][at:]), string(n.Text))
		if place < 0 {
			t.Fatalf("%q: %q does not stand in %q", yield, n.Text, gaps[n.Gap])
		}
		at, last = at+place+len(n.Text), n.Gap
	}
	full, code := Fill(d, tree, gaps)
	if code != api.OK || string(trees.Yield(full)) != yield {
		t.Fatalf("%q: with its own gaps %q %d", yield, trees.Yield(full), code)
	}
	none, code := Fill(d, tree, make([][]byte, len(gaps)))
	if code != api.OK || string(trees.Yield(none)) != mixed(pieces, make([][]byte, len(gaps))) {
		t.Fatalf("%q: with empty gaps %q %d", yield, trees.Yield(none), code)
	}
}

// mixed is pieces with gaps between them.
func mixed(pieces, gaps [][]byte) string {
	text := ""
	for i, piece := range pieces {
		text += string(piece)
		if i < len(gaps) {
			text += string(gaps[i])
		}
	}
	return text
}

// filledRight looks at what follows of the promises for a tree that can be filled: P16.4.
func filledRight(t *testing.T, d api.Def, tree api.Tree, gaps [][]byte) {
	t.Helper()
	k := made(t, d)
	full, code := Fill(d, tree, gaps)
	have, _ := Gaps(d, full)
	if code != api.OK || len(have) != len(gaps) || shown(have) != shown(gaps) {
		t.Fatalf("with %q: %q %d", gaps, have, code)
	}
	if trees.Right(k.Gram, k.Gram.Rules[tree.Rule].Lhs, full) != api.OK {
		t.Fatalf("with %q: no tree", gaps)
	}
	before, _ := Pieces(d, tree)
	after, _ := Pieces(d, full)
	x, _ := ast.Implode(d, tree)
	y, _ := ast.Implode(d, full)
	if shown(before) != shown(after) || len(before) != len(after) || !terms.Same(x, y) {
		t.Fatalf("with %q: %q, then %q", gaps, before, after)
	}
	followsOf(t, d, full)
}

// The same is told each time.
func TestAgain(t *testing.T) {
	d := must(t, most)
	tree := treeOf(t, made(t, d), "top", " s1 ;#a\n(2{b}+[]3). ")
	gaps, _ := Gaps(d, tree)
	pieces, _ := Pieces(d, tree)
	notes, _ := Notes(d, tree)
	full, _ := Fill(d, tree, gaps)
	for range 9 {
		a, _ := Gaps(d, tree)
		b, _ := Pieces(d, tree)
		c, _ := Notes(d, tree)
		if e, _ := Fill(d, tree, gaps); shown(a) != shown(gaps) || shown(b) != shown(pieces) || told(c) != told(notes) || !trees.Same(e, full) {
			t.Error("another answer")
		}
	}
}
