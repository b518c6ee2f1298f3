package packed

import (
	"slices"
	"strings"
	"testing"

	"tracery/api"
	"tracery/charset"
)

// doubles has of n bytes as many trees as there are ways to put brackets.
func doubles() api.Gram {
	return api.Gram{Nts: 1, Rules: []api.Rule{{Rhs: []api.KSym{{}, {}}}, {Rhs: []api.KSym{{Nt: -1, Set: charset.Of('a')}}}}}
}

// picky is a sieve that says what it is told to say, and how often it was asked.
type picky struct {
	keeps func(nt, from, to int) bool
	bans  []int
	asked int
}

func (p *picky) Keeps(nt, from, to int) bool {
	p.asked++
	return p.keeps(nt, from, to)
}

func (p *picky) Bans(rule, pos int) []int {
	p.asked++
	if pos == 1 {
		return p.bans
	}
	return nil
}

func TestSieves(t *testing.T) {
	every := func(nt, from, to int) bool { return true }
	for _, c := range []struct {
		name  string
		sieve Sieve
		want  int
	}{
		{"all", All{}, 14}, {"every", &picky{keeps: every}, 14}, {"left", &picky{keeps: every, bans: []int{0}}, 1},
		{"no kid", &picky{keeps: every, bans: []int{0, 1}}, 0}, {"no leaf", &picky{keeps: every, bans: []int{1}}, 0},
		{"nothing", &picky{keeps: func(nt, from, to int) bool { return false }}, 0},
		{"no pair but all", &picky{keeps: func(nt, from, to int) bool { return to-from != 2 }}, 0},
		{"no three", &picky{keeps: func(nt, from, to int) bool { return to-from != 3 }}, 2},
		{"not all", &picky{keeps: func(nt, from, to int) bool { return to-from != 5 }}, 0},
		{"none from 1", &picky{keeps: func(nt, from, to int) bool { return from != 1 }}, 0},
		{"none from 1 but one", &picky{keeps: func(nt, from, to int) bool { return from != 1 || to == 2 }}, 5},
	} {
		made := New(doubles(), []byte("aaaaa"), c.sieve)
		x := made.Forest()
		if n := made.Count(); n != c.want || len(made.Trees(99)) != c.want || (x.Root == 0) != (c.want > 0) || (len(x.Nodes) == 0) != (c.want == 0) {
			t.Errorf("%s: %d trees, not %d, %d nodes", c.name, n, c.want, len(x.Nodes))
		}
		for i, n := range x.Nodes {
			if len(n.Alts) == 0 || n.Dot >= 0 && len(n.Ban) > 0 {
				t.Errorf("%s: node %d is %+v", c.name, i, n)
			}
		}
	}
}

// A sieve is not asked about a text that has no tree.
func TestNotAsked(t *testing.T) {
	p := &picky{keeps: func(nt, from, to int) bool { return true }}
	for _, w := range []string{"", "b", "aab", "baa", strings.Repeat("a", 9) + "b"} {
		if x := New(doubles(), []byte(w), p).Forest(); x.Root != -1 || len(x.Nodes) > 0 || p.asked > 0 {
			t.Errorf("%q: %+v, asked %d times", w, x, p.asked)
		}
	}
}

// What is banned is told, each node with a list of its own, and lists that are the same make one node.
func TestLists(t *testing.T) {
	given := []int{0}
	x := New(doubles(), []byte("aaa"), &picky{keeps: func(nt, from, to int) bool { return true }, bans: given}).Forest()
	count := 0
	for i := range x.Nodes {
		if len(x.Nodes[i].Ban) > 0 {
			count++
			x.Nodes[i].Ban[0] = 9
		}
	}
	if count != 2 || !slices.Equal(given, []int{0}) {
		t.Errorf("%d nodes with bans, %v", count, given)
	}
}

func TestMeet(t *testing.T) {
	for _, c := range []struct{ a, b, want []int }{
		{nil, nil, nil}, {nil, []int{1}, nil}, {[]int{1}, nil, nil}, {[]int{1}, []int{1}, []int{1}}, {[]int{1, 3, 5}, []int{2, 3, 4, 5, 6}, []int{3, 5}}, {[]int{1, 2}, []int{3}, nil}, {[]int{7, 8}, []int{3}, nil}, {[]int{0, 2, 4}, []int{0, 4}, []int{0, 4}},
	} {
		var have []int
		for i, j := range meet(c.a, c.b) {
			if c.a[i] != c.b[j] {
				t.Errorf("%v %v: %d %d", c.a, c.b, i, j)
			}
			have = append(have, c.a[i])
		}
		if !slices.Equal(have, c.want) {
			t.Errorf("%v %v: %v", c.a, c.b, have)
		}
	}
}

// Sums and products stay at MaxCount.
func TestCounts(t *testing.T) {
	const m = api.MaxCount
	for _, c := range [][4]int{ // a, b, a + b, a * b
		{0, 0, 0, 0}, {0, 5, 5, 0}, {5, 0, 5, 0}, {m, 0, m, 0}, {0, m, m, 0}, {3, 4, 7, 12}, {1, m, m, m}, {m, 1, m, m}, {m, m, m, m}, {m - 1, 1, m, m - 1}, {m / 2, 2, m/2 + 2, m}, {2, m / 2, m/2 + 2, m}, {m/2 - 1, 2, m/2 + 1, m - 2}, {m/2 + 1, 2, m/2 + 3, m}, {1 << 31, 1 << 31, 1 << 32, m}, {1 << 40, 1 << 40, 1 << 41, m},
	} {
		if plus(c[0], c[1]) != c[2] || times(c[0], c[1]) != c[3] {
			t.Errorf("%d, %d: %d %d", c[0], c[1], plus(c[0], c[1]), times(c[0], c[1]))
		}
	}
}
