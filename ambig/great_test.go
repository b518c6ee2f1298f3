package ambig

import (
	"math/rand"
	"slices"
	"strings"
	"testing"

	"tracery/api"
	"tracery/charset"
)

// manySets has as many rules and symbols as a grammar may have, and in each another set.
func manySets() api.Gram {
	r := rand.New(rand.NewSource(1))
	g := api.Gram{Nts: api.MaxNts}
	for n := range api.MaxRules {
		rule := api.Rule{Lhs: n % api.MaxNts}
		for range api.MaxRhs {
			s := api.Set{r.Uint64(), r.Uint64(), r.Uint64(), r.Uint64()}
			s[0] |= 3 // the first two bytes are alike
			rule.Rhs = append(rule.Rhs, api.KSym{Nt: -1, Set: s})
		}
		g.Rules = append(g.Rules, rule)
	}
	return g
}

// A grammar with as many sets as can be is answered soon.
func TestManySets(t *testing.T) {
	g := manySets()
	list, e1 := Signs(g, api.Filters{})
	mapped, e2 := Map(g, api.Filters{}, []byte{0, 1, 2, 255})
	x, e3 := Search(g, api.Filters{}, 60, 100000)
	if e1 != api.OK || e2 != api.OK || e3 != api.OK || len(list) != 255 || !slices.Equal(mapped, []byte{0, 0, 2, 255}) || !same(x, found(api.QExhausted, "", 100000)) {
		t.Errorf("%d signs, %v, %+v", len(list), mapped, x)
	}
}

// A great grammar of which short words need little: what needs more bytes is not looked at.
func TestGreatGrammar(t *testing.T) {
	g := gram(3, "A>B", "B>BcC", "B>C", "C>[a-z]")
	for n := range api.MaxRules - 4 {
		rule := api.Rule{Lhs: n % 2}
		for i := range api.MaxRhs {
			s := api.KSym{Nt: (n + i) % 3}
			if i%4 == 0 {
				s = api.KSym{Nt: -1, Set: charset.Of(byte(n), byte(n>>8), byte(i))}
			}
			rule.Rhs = append(rule.Rhs, s)
		}
		g.Rules = append(g.Rules, rule)
	}
	f := api.Filters{Follow: []api.Set{{}, set("[x]")}, Reject: []int{-1, -1}}
	for rule := 4; rule < api.MaxRules; rule++ {
		for pos := 1; pos < api.MaxRhs; pos += 2 {
			f.Bans = append(f.Bans, ban(rule, pos, (rule*pos)%api.MaxRules))
		}
	}
	if have, code := Search(g, f, api.MaxInput, 100000); code != api.OK || !same(have, found(api.QExhausted, "", 100000)) {
		t.Errorf("%+v %d", have, code)
	}
}

// Words of one sign, which get long.
func TestOneSign(t *testing.T) {
	g := gram(1, "A>aA", "A>"+strings.Repeat("a", api.MaxRhs))
	if have, code := Search(g, api.Filters{}, 200, 100000); code != api.OK || !same(have, found(api.QNone, "", 201)) {
		t.Errorf("%+v %d", have, code)
	}
}

// All words are texts, each of one tree, and are looked at, one by one.
func TestAllWordsRead(t *testing.T) {
	g := gram(1, "A>Aa", "A>A[b-d]", "A>")
	if have, code := Search(g, api.Filters{}, 14, 100000); code != api.OK || !same(have, found(api.QNone, "", 1<<15-1)) {
		t.Errorf("%+v %d", have, code)
	}
}

// The only text with two trees has as many bytes as one may have.
func TestLongWitness(t *testing.T) {
	// B has 2 bytes, C 4 of them, and so on; J has 512
	g := gram(11, "A>J", "A>J", "B>aa", "C>BB", "D>CC", "E>DD", "F>EE", "G>FF", "H>GG", "I>HH", "J>II")
	for n, want := range map[int]api.Found{api.MaxInput: found(api.QWitness, strings.Repeat("a", api.MaxInput), api.MaxInput+1), api.MaxInput - 1: found(api.QNone, "", api.MaxInput)} {
		if have, code := Search(g, api.Filters{}, n, 100000); code != api.OK || !same(have, want) {
			t.Errorf("%d: %d bytes, %d, %d tried, %d", n, len(have.Word), have.Kind, have.Tried, code)
		}
	}
	if have, code := Search(g, api.Filters{}, api.MaxInput, api.MaxInput); code != api.OK || !same(have, found(api.QExhausted, "", api.MaxInput)) {
		t.Errorf("%+v %d", have, code)
	}
}
