package kernel

import (
	"cmp"
	"math/rand"
	"reflect"
	"slices"
	"strconv"
	"strings"
	"testing"

	"tracery/api"
	"tracery/charset"
	"tracery/check"
	"tracery/facts"
)

// byChance is a definition of a few sorts; most are right.
func byChance(r *rand.Rand) string {
	pick := func(list ...string) string { return list[r.Intn(len(list))] }
	text := `start ` + pick("E", "F") + `; cf E.A = "a"; lex N = "n"; lex M = "m"; cf F.B = "b"; lex W = " "; `
	if r.Intn(2) == 0 {
		text += `layout W; `
	}
	cons := []string{"A", "B"}
	for i := range r.Intn(5) {
		cons = append(cons, "C"+strconv.Itoa(i))
		text += "cf " + pick("E", "F") + ".C" + strconv.Itoa(i) + " = "
		for range 1 + r.Intn(5) {
			text += pick("E", "F", "E", "F", "N", `"x"`, `"yz"`, "E?", "F?", "N?", "N*", "E*", "E+", "N+", `{F ","}+`, `{E ",;"}*`, `{N ","}*`) + " "
		}
		text += ";"
	}
	for range r.Intn(3) {
		text += "lex " + pick("N", "M", "W") + " = "
		for range 1 + r.Intn(4) {
			text += pick(`"x"`, `"yz"`, "[a]", "[a]+", "[b]*", "[a]?", "M", "M?", "N*", "N+", "[]") + " "
		}
		text += ";"
	}
	if r.Intn(3) == 0 {
		text += `cf E = "(" E ")" bracket; `
	}
	for range r.Intn(4) {
		text += chain(r, cons)
	}
	for range r.Intn(3) {
		text += "follow " + pick("N", "E", "F", "W") + pick("[a]", "[a-z]", "[^a]") + ";"
	}
	if r.Intn(3) == 0 {
		text += `lex K = "k"; reject N K;`
	}
	return text
}

// chain is some of the constructors in groups, each once.
func chain(r *rand.Rand, cons []string) string {
	list := slices.Clone(cons)
	r.Shuffle(len(list), reflect.Swapper(list))
	text := "prio"
	for i, name := range list[:1+r.Intn(len(list))] {
		if i > 0 && r.Intn(2) == 0 {
			text += " >"
		}
		if i == 0 || strings.HasSuffix(text, ">") {
			text += []string{"", " left", " right", " non"}[r.Intn(4)]
		}
		text += " " + name
	}
	return text + ";"
}

// rightOnes calls with so many definitions that are right, and their grammars.
func rightOnes(t *testing.T, seed int64, n int, look func(text string, k api.Kern)) {
	t.Helper()
	r := rand.New(rand.NewSource(seed))
	right := 0
	for range n {
		text := byChance(r)
		d := must(t, text)
		e, _ := check.Check(d)
		k, code := Make(d)
		if (e == api.OK) != (code == api.OK) || e != api.OK && code != api.ErrDef {
			t.Fatalf("Make(%q): %v, Check: %v", text, code, e)
		}
		if e == api.OK {
			right++
			look(text, k)
		}
	}
	if right < n/4 {
		t.Errorf("only %d of %d are right", right, n)
	}
}

// slowOwn is a symbol's own, found by names.
func slowOwn(k api.Kern, p api.Prod, s api.Sym) []api.KSym {
	switch {
	case s.Kind == api.SLit:
		var list []api.KSym
		for _, b := range []byte(s.Text) {
			list = append(list, api.KSym{Nt: -1, Set: charset.Of(b)})
		}
		return list
	case (s.Kind == api.SSet || s.Kind == api.SOpt) && s.Name == "":
		return []api.KSym{{Nt: -1, Set: s.Set}}
	case s.Kind == api.SSort || s.Kind == api.SOpt:
		return []api.KSym{{Nt: slices.Index(k.Names, s.Name)}}
	}
	return []api.KSym{{Nt: slowList(k, p.Lex, s)}}
}

// slowList is a list's nonterminal: as many behind the sorts as there are other lists met ahead of it.
func slowList(k api.Kern, lex bool, s api.Sym) int {
	var met []api.Sym
	for _, p := range k.Def.Prods {
		for _, other := range p.Syms {
			if other.Kind != api.SStar && other.Kind != api.SPlus {
				continue
			}
			other.Kind, other.Text = 0, strconv.FormatBool(p.Lex)
			if !slices.Contains(met, other) {
				met = append(met, other)
			}
		}
	}
	s.Kind, s.Text = 0, strconv.FormatBool(lex)
	return len(check.Sorts(k.Def)) + slices.Index(met, s)
}

// P5.3 and P5.4: a production's rules are its masks, and each rule is what the mask leaves of its symbols.
func TestAlternatives(t *testing.T) {
	rightOnes(t, 1, 3000, func(text string, k api.Kern) {
		at := 0
		for i, p := range k.Def.Prods {
			omit := 0
			for _, s := range p.Syms {
				if s.Kind == api.SOpt || s.Kind == api.SStar {
					omit++
				}
			}
			rules := Rules(k, i)
			if len(rules) != 1<<omit {
				t.Fatalf("%q: production %d has %d rules", text, i, len(rules))
			}
			for mask, r := range rules {
				if r != at || k.From[r].Kind != api.OUser || k.From[r].Mask != mask || k.Gram.Rules[r].Lhs != Sort(k, p.Sort) {
					t.Fatalf("%q: rule %d: %+v %+v", text, r, k.Gram.Rules[r], k.From[r])
				}
				looksAtMask(t, text, k, r)
				at++
			}
		}
	})
}

// looksAtMask holds a rule against what its mask leaves: gaps between each two symbols, and nowhere else.
func looksAtMask(t *testing.T, text string, k api.Kern, r int) {
	t.Helper()
	o := k.From[r]
	p := k.Def.Prods[o.Prod]
	gap := slices.Index(k.Names, "gap")
	var rhs []api.KSym
	var syms []int
	omit := 0
	for i, s := range p.Syms {
		if s.Kind == api.SOpt || s.Kind == api.SStar {
			omit++
			if o.Mask>>(omit-1)&1 == 0 {
				continue
			}
		}
		if len(syms) > 0 && !p.Lex && k.Def.Layout != "" {
			rhs, syms = append(rhs, api.KSym{Nt: gap}), append(syms, -1)
		}
		own := slowOwn(k, p, s)
		rhs, syms = append(rhs, own...), append(syms, slices.Repeat([]int{i}, len(own))...)
	}
	if !slices.Equal(k.Gram.Rules[r].Rhs, rhs) || !slices.Equal(o.Syms, syms) {
		t.Fatalf("%q: rule %d is %s from %v", text, r, ruleText(k, r), o.Syms)
	}
}

// The rules behind those of productions: two of each list, two of the gap, one of the top.
func TestOtherRules(t *testing.T) {
	rightOnes(t, 2, 2000, func(text string, k api.Kern) {
		sorts := check.Sorts(k.Def)
		equal(t, "the sorts' names", k.Names[:len(sorts)], sorts)
		lists, tail := k.Names[len(sorts):len(k.Names)-1], 1
		if k.Names[len(k.Names)-1] != "top" || len(k.Names) != k.Gram.Nts || k.Gram.Start != k.Gram.Nts-1 {
			t.Fatalf("%q: %v %d %d", text, k.Names, k.Gram.Nts, k.Gram.Start)
		}
		if k.Def.Layout != "" {
			if lists[len(lists)-1] != "gap" {
				t.Fatalf("%q: %v", text, k.Names)
			}
			lists, tail = lists[:len(lists)-1], 3
		}
		at := len(k.Gram.Rules) - tail - 2*len(lists)
		for i := range lists {
			for n, kind := range []int{api.OOne, api.OMore} {
				if r := at + 2*i + n; k.From[r].Kind != kind || k.Gram.Rules[r].Lhs != len(sorts)+i {
					t.Fatalf("%q: rule %d: %+v", text, r, k.From[r])
				}
			}
		}
		for r, o := range k.From {
			if (o.Kind == api.OUser) != (r < at) || o.Kind != api.OUser && (o.Prod != 0 || o.Mask != 0 || len(o.Syms) > 0) {
				t.Fatalf("%q: rule %d: %+v", text, r, o)
			}
		}
		if len(k.From) != len(k.Gram.Rules) || len(k.Filters.Follow) != k.Gram.Nts || len(k.Filters.Reject) != k.Gram.Nts {
			t.Fatalf("%q: lists of other lengths: %+v", text, k)
		}
	})
}

// P5.5: no rule but OGapNone is without symbols.
func TestNoEmptyRules(t *testing.T) {
	rightOnes(t, 3, 2000, func(text string, k api.Kern) {
		for r, rule := range k.Gram.Rules {
			if (len(rule.Rhs) == 0) != (k.From[r].Kind == api.OGapNone) {
				t.Fatalf("%q: rule %d: %+v %+v", text, r, rule, k.From[r])
			}
		}
	})
}

// slowBans is the bans by the document's words, chain by chain and pair by pair.
func slowBans(k api.Kern) []api.Ban {
	met := map[api.Ban]int{}
	pairs(k.Def, func(p, q, ahead, assoc int) {
		syms := k.Def.Prods[p].Syms
		for n, s := range syms {
			if s.Kind != api.SSort && s.Kind != api.SOpt || s.Name != k.Def.Prods[q].Sort {
				continue
			}
			first, last := n == 0, n == len(syms)-1
			if ahead > 0 || ahead == 0 && (assoc == api.ALeft && last || assoc == api.ARight && first || assoc == api.ANon && (first || last)) {
				for _, r := range Rules(k, p) {
					for pos, sym := range k.From[r].Syms {
						for _, kid := range Rules(k, q) {
							if sym == n {
								met[api.Ban{Rule: r, Pos: pos, Kid: kid}]++
							}
						}
					}
				}
			}
		}
	})
	var list []api.Ban
	for b := range met {
		list = append(list, b)
	}
	slices.SortFunc(list, func(a, b api.Ban) int {
		return cmp.Or(cmp.Compare(a.Rule, b.Rule), cmp.Compare(a.Pos, b.Pos), cmp.Compare(a.Kid, b.Kid))
	})
	return list
}

// pairs calls with each two productions of one chain, how many groups the first stands ahead, and the first one's associativity.
func pairs(d api.Def, look func(p, q, ahead, assoc int)) {
	for _, c := range d.Chains {
		for i, g := range c {
			for j, h := range c {
				for _, a := range g.Cons {
					for _, b := range h.Cons {
						look(check.Cons(d, a), check.Cons(d, b), j-i, g.Assoc)
					}
				}
			}
		}
	}
}

func TestBansOfBars(t *testing.T) {
	some := 0
	rightOnes(t, 4, 3000, func(text string, k api.Kern) {
		if want := slowBans(k); !slices.Equal(k.Filters.Bans, want) {
			t.Fatalf("%q: %v, not %v", text, k.Filters.Bans, want)
		}
		if len(k.Filters.Bans) > 2 {
			some++
		}
	})
	if some < 300 {
		t.Errorf("only %d with bans", some)
	}
}

// P5.6: bars hang on chains alone.
func TestNoBarsWithoutChains(t *testing.T) {
	rightOnes(t, 5, 2000, func(text string, k api.Kern) {
		d := k.Def
		for i, c := range d.Chains {
			var all []string
			for _, g := range c {
				all = append(all, g.Cons...)
			}
			d.Chains[i] = []api.Group{{Assoc: api.ANone, Cons: all}}
		}
		bare := d
		bare.Chains = nil
		for _, without := range []api.Def{d, bare} {
			other, e := Make(without)
			if e != api.OK || len(other.Filters.Bans) > 0 {
				t.Fatalf("%q: %v %v", text, e, other.Filters.Bans)
			}
			if !reflect.DeepEqual(other.Gram, k.Gram) || !reflect.DeepEqual(other.Filters.Follow, k.Filters.Follow) {
				t.Fatalf("%q: the grammar hangs on chains", text)
			}
		}
	})
}

// P5.7: the nonterminals but the top, and all rules but the top's, do not hang on Start.
func TestStartIsOfTheTopAlone(t *testing.T) {
	rightOnes(t, 6, 2000, func(text string, k api.Kern) {
		d := k.Def
		d.Start = map[string]string{"E": "F", "F": "E"}[d.Start]
		other, e := Make(d)
		n := len(k.Gram.Rules) - 1
		if e != api.OK || !slices.Equal(other.Names, k.Names) || !reflect.DeepEqual(other.Filters, k.Filters) ||
			!reflect.DeepEqual(other.Gram.Rules[:n], k.Gram.Rules[:n]) || reflect.DeepEqual(other.Gram.Rules[n], k.Gram.Rules[n]) {
			t.Fatalf("%q: %v", text, e)
		}
	})
}

// P6.8, and P4 of grammars: just the gap is nullable, and no nonterminal leads to itself.
func TestGrammarsAreRightAndNotCyclic(t *testing.T) {
	rightOnes(t, 7, 3000, func(text string, k api.Kern) {
		loop, e := facts.Cyclic(k.Gram)
		if facts.Right(k.Gram) != api.OK || e != api.OK || loop {
			t.Fatalf("%q: %v %v", text, loop, e)
		}
		empty, _ := facts.Nullable(k.Gram)
		for nt, so := range empty {
			if so != (k.Names[nt] == "gap") {
				t.Fatalf("%q: %s is nullable: %v", text, k.Names[nt], so)
			}
		}
	})
}
