package box

import (
	"slices"
	"strconv"
	"strings"
	"testing"

	"tracery/api"
	"tracery/kernel"
	"tracery/kin"
)

// Trees that are deeper than any right term's and any right document: P15.1 does not ask for that.
func TestDeepTrees(t *testing.T) {
	for def, levels := range map[string]int{
		`start E; cf E.A = E "+"; cf E.N = N; cf E = "(" E ")" bracket; lex N = [a-z];`:                                       1,
		`start E; cf E.A = E "+"; cf E.N = N; cf E = "(" E ")" bracket; lex N = [a-z]; box A = group(nest 3(1) "+");`:         3,
		`start E; cf E.A = E "+"; cf E.N = N; cf E = "(" E ")" bracket; lex N = [a-z]; box A = group(group(group(1))) / "+";`: 4,
	} {
		d := must(t, def)
		k := made(t, d)
		for rule, high := range map[int]int{0: levels, kernel.Rules(k, 2)[0]: 1} {
			for _, deep := range []int{1, 2, api.MaxNest, 1 << 16, 1 << 18} {
				tree := treeOf(t, k, "E", "x")
				for range deep {
					tree = api.Tree{Rule: rule, Kids: []api.Tree{tree, {Rule: -1, Byte: '+'}}}
					if rule != 0 {
						tree.Kids = []api.Tree{{Rule: -1, Byte: '('}, tree.Kids[0], {Rule: -1, Byte: ')'}}
					}
				}
				doc, code := Make(d, tree)
				if _, have := kin.Size(doc, kin.OfDoc); code != api.OK || have != deep*high+2 {
					t.Errorf("%d deep: %d deep, %d", deep, have, code)
				}
			}
		}
	}
}

// Lists of many parts, whose trees nest as often.
func TestLongLists(t *testing.T) {
	for _, def := range []string{most, most + "layout W;", most + boxes + "layout W;"} {
		d := must(t, def)
		k := made(t, d)
		for _, n := range []int{1, 2, 3, 1000, 1 << 17} {
			tree := treeOf(t, k, "E", "s1;2;3.")
			list := tree.Kids[len(tree.Kids)/2]
			more, one := list, list.Kids[0].Kids[0]
			grown := one
			for range n - 1 {
				more.Kids = slices.Clone(more.Kids)
				more.Kids[0] = grown
				grown = more
			}
			tree.Kids[len(tree.Kids)/2] = grown
			doc, code := Make(d, tree)
			if code != api.OK {
				t.Fatalf("%d parts: %d", n, code)
			}
			texts := 0
			for part := range kin.Parts(&doc, kin.OfDoc) {
				if part.Text == ";" {
					texts++
				}
			}
			if texts != n-1 {
				t.Errorf("%d parts: %d separators", n, texts)
			}
		}
	}
}

// manyBans is a definition that bans about as much as one can: nearly a hundred million times.
func manyBans(t *testing.T) api.Def {
	text, up, down := `start E; cf E.C0 = "0"; cf E.D = "d" E?; cf E = "(" E ")" bracket; `, "prio non C0", " C0; "
	for i := 1; i < api.MaxProds-2; i++ {
		name := "C" + strconv.Itoa(i)
		text += "cf E." + name + ` = E? E? E? "x` + strconv.Itoa(i%99) + `." E? E E E E E E E; `
		if i%13 == 0 {
			up, down = up+" > non", " > non"+down
		}
		up, down = up+" "+name, " "+name+down
	}
	return must(t, text+up+"; prio non"+down+"prio D > C0;")
}

// A definition whose chains ban very much is answered soon.
func TestManyBans(t *testing.T) {
	d := manyBans(t)
	for x, want := range map[string]string{
		`C0`:                               "0",
		`D(?C0)`:                           "d(0)",
		`D(?D(?D(?D(-))))`:                 "dddd",
		`C7(-,-,-,-,C0,C0,C0,C0,C0,C0,C0)`: "x7.000000(0)",
		`C20(?D(?C0),-,-,-,D(-),C0,C0,C0,C0,C0,C0)`:  "d(0)x20.d(0)(0)(0)(0)(0)(0)",
		`C150(-,-,-,?D(?C0),C0,C0,C0,C0,C0,C0,D(-))`: "x51.d(0)(0)(0)(0)(0)(0)(0)d",
	} {
		for range 3 {
			text, code := Print(d, term(t, x), 80)
			if text != want || code != api.OK {
				t.Fatalf("%s: %q %d, not %q", x, text, code, want)
			}
		}
	}
}

// A thousand trees of a great definition are looked at soon.
func TestGreatDefinition(t *testing.T) {
	text := `start E; cf E.A = N N N; cf E.B = M; lex N = [a]+; lex M = "a" M | "a" M M | "aa"; `
	for i := range api.MaxProds - 10 {
		text += "cf E.C" + strconv.Itoa(i) + ` = "` + strings.Repeat("z", api.MaxLit-9) + strconv.Itoa(i) + `" E? E? E? E? "q"; `
	}
	d := must(t, text)
	many := strings.Repeat("a", 60)
	for x, want := range map[string]api.Errno{`A("` + many[:1] + `","` + many[:1] + `","` + many[:58] + `")`: api.OK, `A("` + many[:1] + `","` + many[:58] + `","` + many[:1] + `")`: api.ErrPrint, `B("` + many + `")`: api.ErrPrint} {
		if have, code := Print(d, term(t, x), 80); code != want || (have == many) != (want == api.OK) {
			t.Errorf("%s: %q %d", x, have, code)
		}
	}
}
