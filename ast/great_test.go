package ast

import (
	"slices"
	"strconv"
	"strings"
	"testing"

	"tracery/api"
	"tracery/charset"
	"tracery/kernel"
	"tracery/terms"
	"tracery/trees"
)

// chain is a tree of Neg on Neg, down to Nil.
func chain(k api.Kern, deep int) api.Tree {
	neg, null := kernel.Rules(k, 2)[0], kernel.Rules(k, 3)[0]
	tree := api.Tree{Rule: null, Kids: []api.Tree{{Rule: -1, Byte: 'n'}, {Rule: -1, Byte: 'i'}, {Rule: -1, Byte: 'l'}}}
	for range deep - 1 {
		tree = api.Tree{Rule: neg, Kids: []api.Tree{{Rule: -1, Byte: '-'}, tree}}
	}
	return tree
}

// P12.2 and P12.6: a term may be deeper than a right one; as deep as that it is one of the sort.
func TestDeepTrees(t *testing.T) {
	d, k := must(t, most), made(t, most)
	for _, deep := range []int{1, 2, api.MaxNest, api.MaxNest + 1, 1 << 16, 1 << 18} {
		x, code := Implode(d, chain(k, deep))
		if size, have := terms.Size(x); code != api.OK || size != deep || have != deep {
			t.Fatalf("%d deep: %d, %d deep, %d", deep, size, have, code)
		}
		count := 0
		for at := x; ; at = at.Kids[0] {
			count++
			if count == deep {
				if at.Cons != "Nil" || len(at.Kids) != 0 {
					t.Errorf("%d deep: %v", deep, at)
				}
				break
			}
			if at.Kind != api.TApp || at.Cons != "Neg" || len(at.Kids) != 1 {
				t.Fatalf("%d deep: %s", deep, at.Cons)
			}
		}
		want := api.OK
		if deep > api.MaxNest {
			want = api.ErrTerm
		}
		if code := Sorted(d, "E", x); code != want {
			t.Errorf("%d deep: %d", deep, code)
		}
		if tree, code := Explode(d, "E", x); code != want || want == api.OK && !trees.Same(tree, chain(k, deep)) {
			t.Errorf("%d deep: %d", deep, code)
		}
	}
	// brackets within one another, and holes that make a term deeper than its tree
	bracket := kernel.Rules(k, 4)[0]
	tree := chain(k, 1)
	for range 1 << 16 {
		tree = api.Tree{Rule: bracket, Kids: []api.Tree{{Rule: -1, Byte: '('}, tree, {Rule: -1, Byte: ')'}}}
	}
	if x, code := Implode(d, tree); code != api.OK || shown(x) != "Nil" {
		t.Errorf("%s %d", shown(x), code)
	}
	for _, deep := range []int{api.MaxNest/2 - 1, api.MaxNest / 2} {
		x, code := Implode(d, treeOf(t, k, "E", strings.Repeat("o", deep)+"nil"))
		if _, have := terms.Size(x); code != api.OK || have != 2*deep+1 {
			t.Errorf("%d deep, %d", have, code)
		}
		if right := Sorted(d, "E", x) == api.OK; right != (2*deep+1 <= api.MaxNest) {
			t.Errorf("%d deep: %v", 2*deep+1, right)
		}
	}
}

// Lists of many parts: their trees nest as often.
func TestLongLists(t *testing.T) {
	for _, text := range []string{most, gaps} {
		d := must(t, text)
		for _, n := range []int{1, 2, 3, 1000, 1 << 17} {
			x := api.Term{Kind: api.TApp, Cons: "Star", Kids: []api.Term{{Kind: api.TList, Kids: slices.Repeat([]api.Term{term(t, `Num("7")`)}, n)}}}
			x.Kids[0].Kids[n/2] = term(t, "Nil")
			tree, code := Explode(d, "E", x)
			if code != api.OK {
				t.Fatalf("%d parts: %d", n, code)
			}
			if yield := string(trees.Yield(tree)); len(yield) != 2*n-1+2+2 || yield[:min(n/2*2+4, len(yield))] != "s"+strings.Repeat("7,", n/2)+"nil" {
				t.Errorf("%d parts: %.20q", n, yield)
			}
			if back, code := Implode(d, tree); code != api.OK || !terms.Same(back, x) {
				t.Errorf("%d parts: %d", n, code)
			}
		}
	}
}

// Many lexemes of a grammar of thousands of rules are answered soon.
func TestGreatDefinition(t *testing.T) {
	d := api.Def{Start: "S0"}
	n := 0
	list := func(kind int) api.Sym {
		n++
		return api.Sym{Kind: kind, Name: "S0", Sep: strings.Repeat("\xff", api.MaxLit-4) + strconv.Itoa(1000+n)}
	}
	for i := range api.MaxProds - 4 {
		p := api.Prod{Sort: "S" + strconv.Itoa(i), Cons: "C" + strconv.Itoa(i)}
		for range api.MaxOmit {
			p.Syms = append(p.Syms, list(api.SStar))
		}
		for len(p.Syms) < api.MaxSyms {
			p.Syms = append(p.Syms, list(api.SPlus))
		}
		d.Prods = append(d.Prods, p)
	}
	d.Layout = "W"
	d.Prods = append(d.Prods,
		api.Prod{Lex: true, Sort: "W", Syms: []api.Sym{{Kind: api.SSet, Set: charset.Of(' ')}}},
		api.Prod{Lex: true, Sort: "N", Syms: []api.Sym{{Kind: api.SPlus, Set: charset.Of([]byte("0123456789")...)}}},
		api.Prod{Sort: "S0", Cons: "L", Syms: []api.Sym{{Kind: api.SPlus, Name: "N", Sep: ","}}},
		api.Prod{Sort: "S0", Cons: "M", Syms: []api.Sym{{Kind: api.SLit, Text: "m"}}},
	)
	x := api.Term{Kind: api.TApp, Cons: "L", Kids: []api.Term{{Kind: api.TList}}}
	for i := range 5000 {
		x.Kids[0].Kids = append(x.Kids[0].Kids, api.Term{Kind: api.TLex, Text: []byte(strconv.Itoa(1000000 + i))})
	}
	tree, code := Explode(d, "S0", x)
	if code != api.OK {
		t.Fatal(code)
	}
	k, _ := kernel.Make(d)
	if trees.Right(k.Gram, 0, tree) != api.OK || len(trees.Yield(tree)) != 5000*8-1 {
		t.Errorf("%d bytes", len(trees.Yield(tree)))
	}
	if back, code := Implode(d, tree); code != api.OK || !terms.Same(back, x) {
		t.Error(code)
	}
	all := api.Term{Kind: api.TApp, Cons: "C0"}
	for i := range api.MaxSyms {
		all.Kids = append(all.Kids, api.Term{Kind: api.TList})
		if i != 1 && i != 2 {
			all.Kids[i].Kids = []api.Term{{Kind: api.TApp, Cons: "M"}, {Kind: api.TApp, Cons: "M"}}
		}
	}
	tree, code = Explode(d, "S0", all)
	if from := k.From[tree.Rule]; code != api.OK || from.Prod != 0 || from.Mask != 0b1001 {
		t.Errorf("%+v %d", from, code)
	}
	if back, code := Implode(d, tree); code != api.OK || !terms.Same(back, all) {
		t.Error(code)
	}
}

// A definition whose chains ban very much is answered soon, and just as without chains.
func TestManyBans(t *testing.T) {
	text, prio := `start E; cf E.C0 = "0"; `, "prio left C0"
	for i := 1; i < api.MaxProds; i++ {
		text += "cf E.C" + strconv.Itoa(i) + ` = E? E? E? "x" E?; `
		if i%13 == 0 {
			prio += " > left"
		}
		prio += " C" + strconv.Itoa(i)
	}
	d := must(t, text+prio+";")
	x := term(t, `C7(?C0,-,?C0,?C150(-,-,-,-))`)
	tree, code := Explode(d, "E", x)
	if back, e := Implode(d, tree); code != api.OK || e != api.OK || !terms.Same(back, x) || string(trees.Yield(tree)) != "00xx" {
		t.Errorf("%d %d", code, e)
	}
}
