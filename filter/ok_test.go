package filter

import (
	"slices"
	"strings"
	"testing"

	"tracery/api"
	"tracery/charset"
)

func leaf(b byte) api.Tree { return api.Tree{Rule: -1, Byte: b} }

func node(rule int, kids ...api.Tree) api.Tree { return api.Tree{Rule: rule, Kids: kids} }

// digit is a tree of sum.
func digit(b byte) api.Tree { return node(1, leaf(b)) }

func plus(a, b api.Tree) api.Tree { return node(0, a, leaf('+'), b) }

// P10.1: a tree that is kept, and what comes first, if it is not looked at.
func TestOkErrors(t *testing.T) {
	left := bans(ban(0, 2, 0))
	fine := plus(plus(digit('1'), digit('2')), digit('3'))
	long := strings.Repeat("1", api.MaxInput+1)
	for i, c := range []struct {
		g    api.Gram
		f    api.Filters
		w    string
		tree api.Tree
		want api.Errno
	}{
		{sum(), left, "1+2+3", fine, api.OK}, {sum(), api.Filters{}, "1+2+3", fine, api.OK}, {sum(), api.Filters{Bans: []api.Ban{}, Follow: []api.Set{}, Reject: []int{}}, "7", digit('7'), api.OK},
		// facts.Right's error, then ErrForm of the filters
		{api.Gram{}, left, "1+2+3", fine, api.ErrForm}, {gram(1, "A>B"), bans(ban(9, 9, 9)), long, leaf('x'), api.ErrForm},
		{sum(), bans(ban(0, 3, 0)), "1+2+3", fine, api.ErrForm}, {sum(), reject(1), long, node(9), api.ErrForm}, {sum(), follow("", ""), long, fine, api.ErrForm},
		// then the text's length
		{sum(), left, long, fine, api.ErrLong}, {sum(), left, long, leaf('x'), api.ErrLong}, {gram(1, "A>A", "A>1"), left, long, node(9), api.ErrForm}, {gram(1, "A>A", "A>1"), bans(ban(0, 0, 0)), long, node(9), api.ErrLong},
		// then the tree, of Start
		{sum(), left, "1+2+3", leaf('1'), api.ErrTree}, {sum(), left, "1", node(2, leaf('1')), api.ErrTree}, {sum(), left, "1", node(-2), api.ErrTree}, {sum(), left, "0", api.Tree{}, api.ErrTree}, {sum(), left, "x", digit('x'), api.ErrTree},
		{sum(), left, "1", api.Tree{Rule: 1, Byte: 1, Kids: []api.Tree{leaf('1')}}, api.ErrTree}, {sum(), left, "1", node(1, api.Tree{Rule: -1, Byte: '1', Kids: []api.Tree{leaf('1')}}), api.ErrTree}, {sum(), left, "1+", node(0, digit('1'), leaf('+')), api.ErrTree},
		{gram(2, "A>B", "B>b"), api.Filters{}, "b", node(1, leaf('b')), api.ErrTree},
		// and its yield
		{sum(), left, "1+2+4", fine, api.ErrTree}, {sum(), left, "", fine, api.ErrTree}, {sum(), left, "1+2+3+", fine, api.ErrTree}, {sum(), left, "1+2+", fine, api.ErrTree}, {sum(), left, "+2+3", fine, api.ErrTree}, {sum(), left, "", digit('1'), api.ErrTree},
		{sum(), left, "1+2", plus(digit('1'), plus(digit('2'), digit('3'))), api.ErrTree}, // ahead of what is not kept
		{gram(1, "A>"), api.Filters{}, "", node(0), api.OK}, {gram(1, "A>"), api.Filters{}, "a", node(0), api.ErrTree},
		// then what is not kept
		{sum(), left, "1+2+3", plus(digit('1'), plus(digit('2'), digit('3'))), api.ErrBan}, {sum(), follow("+"), "1+2+3", fine, api.ErrFoll}, {sum(), reject(0), "1+2+3", fine, api.ErrRej},
	} {
		if have := Ok(c.g, c.f, []byte(c.w), c.tree); have != c.want {
			t.Errorf("%d, %q, %s: %d, not %d", i, c.w, treeText(c.tree), have, c.want)
		}
	}
	most := gram(1, "A>1A", "A>")
	tree := node(1)
	for range api.MaxInput {
		tree = node(0, leaf('1'), tree)
	}
	if have := Ok(most, follow("x"), []byte(long[1:]), tree); have != api.OK {
		t.Errorf("%d bytes: %d", api.MaxInput, have)
	}
	if have := Ok(most, follow("x"), []byte(long), node(0, leaf('1'), tree)); have != api.ErrLong {
		t.Errorf("%d bytes: %d", len(long), have)
	}
}

// P10.1: of one node ErrFoll, ErrRej, ErrBan in this order; of several the first one, each ahead of its kids, these from the left.
func TestOkFirst(t *testing.T) {
	g := gram(4, "A>BCx", "B>b", "C>c", "C>Cd", "D>b", "D>c", "D>bc", "D>", "A>C", "A>BCdx")
	x := node(0, node(1, leaf('b')), node(2, leaf('c')), leaf('x'))
	y := node(0, node(1, leaf('b')), node(3, node(2, leaf('c')), leaf('d')), leaf('x'))
	all := func(list ...api.Filters) api.Filters {
		f := api.Filters{Follow: make([]api.Set, 4), Reject: []int{-1, -1, -1, -1}}
		for _, more := range list {
			f.Bans = append(f.Bans, more.Bans...)
			for nt, s := range more.Follow {
				f.Follow[nt] = charset.Union(f.Follow[nt], s)
			}
			for nt, by := range more.Reject {
				f.Reject[nt] = max(f.Reject[nt], by)
			}
		}
		return f
	}
	for i, c := range []struct {
		f    api.Filters
		w    string
		tree api.Tree
		want api.Errno
	}{
		{all(), "bcx", x, api.OK}, {all(), "bcdx", y, api.OK},
		// of one node
		{bans(ban(0, 1, 2)), "bcx", x, api.ErrBan}, {bans(ban(0, 0, 1)), "bcx", x, api.ErrBan}, {bans(ban(0, 0, 2)), "bcx", x, api.OK}, {bans(ban(0, 1, 1)), "bcx", x, api.OK}, {bans(ban(8, 0, 2), ban(9, 1, 2)), "bcx", x, api.OK}, {bans(ban(0, 2, 2), ban(1, 0, 1), ban(0, 2, 0)), "bcx", x, api.OK},
		{bans(ban(0, 1, 2)), "bcdx", y, api.OK}, {bans(ban(0, 1, 3)), "bcdx", y, api.ErrBan}, {bans(ban(3, 0, 2)), "bcdx", y, api.ErrBan}, {bans(ban(3, 0, 3)), "bcdx", y, api.OK}, {bans(ban(3, 1, 2), ban(3, 1, 3)), "bcdx", y, api.OK},
		{follow("", "c"), "bcx", x, api.ErrFoll}, {follow("c", "bdx", "cb"), "bcx", x, api.OK}, {follow("bcdx"), "bcx", x, api.OK}, {follow("", "", "x"), "bcx", x, api.ErrFoll}, {follow("", "", "d"), "bcdx", y, api.ErrFoll}, {follow("", "", "c"), "bcdx", y, api.OK},
		{reject(-1, 3), "bcx", x, api.ErrRej}, {reject(-1, -1, 3), "bcx", x, api.ErrRej}, {reject(3), "bcx", x, api.OK}, {reject(-1, 2), "bcx", x, api.OK}, {reject(-1, -1, 1), "bcx", x, api.OK}, {reject(0), "bcx", x, api.ErrRej}, {reject(-1, 1), "bcx", x, api.ErrRej}, {reject(-1, -1, -1, 3), "bcx", x, api.OK},
		{all(follow("", "", "d"), reject(-1, -1, 3)), "bcdx", y, api.ErrFoll}, // node 2
		{all(follow("", "", "dx"), reject(-1, -1, 3), bans(ban(3, 0, 2))), "bcdx", y, api.ErrFoll},
		{all(reject(-1, -1, 2), bans(ban(3, 0, 2))), "bcdx", y, api.ErrRej}, // node 3
		{all(reject(0), bans(ban(0, 1, 2))), "bcx", x, api.ErrRej},          // the root
		{all(follow("x"), reject(0), bans(ban(0, 1, 2))), "bcx", x, api.ErrRej},
		// a node ahead of its kids
		{all(bans(ban(0, 1, 2)), follow("", "c", "x"), reject(-1, 3, 3)), "bcx", x, api.ErrBan},
		{all(reject(0), follow("", "c", "x")), "bcx", x, api.ErrRej},
		{all(bans(ban(3, 0, 2)), follow("", "", "d")), "bcdx", y, api.ErrBan},
		{all(bans(ban(3, 0, 2)), reject(-1, -1, 3)), "bcdx", y, api.ErrBan},
		{all(follow("", "", "x"), bans(ban(3, 0, 2))), "bcdx", y, api.ErrFoll},
		// from the left
		{all(reject(-1, 3), follow("", "", "x")), "bcx", x, api.ErrRej},
		{all(follow("", "c"), reject(-1, -1, 3)), "bcx", x, api.ErrFoll},
		{all(reject(-1, 3), bans(ban(3, 0, 2))), "bcdx", y, api.ErrRej},
		{all(bans(ban(3, 0, 2)), follow("", "c")), "bcdx", y, api.ErrFoll},
	} {
		if have := Ok(g, c.f, []byte(c.w), c.tree); have != c.want {
			t.Errorf("%d, %+v, %s: %d, not %d", i, c.f, treeText(c.tree), have, c.want)
		}
	}
}

// Nodes of no bytes: what stands behind them, and what rejects them.
func TestOkEmpty(t *testing.T) {
	g := gram(3, "A>BbB", "B>", "C>", "C>b", "A>Bb")
	tree := node(0, node(1), leaf('b'), node(1))
	for i, c := range []struct {
		f    api.Filters
		want api.Errno
	}{
		{api.Filters{}, api.OK}, {follow("b", "x", "b"), api.OK}, {follow("", "b"), api.ErrFoll}, {reject(-1, 2), api.ErrRej}, {reject(-1, 0), api.OK}, {reject(2), api.ErrRej}, {reject(1), api.OK}, {reject(-1, 1), api.ErrRej},
		{bans(ban(0, 2, 1)), api.ErrBan}, {bans(ban(0, 0, 1)), api.ErrBan}, {bans(ban(0, 1, 1), ban(4, 0, 1)), api.OK},
	} {
		if have := Ok(g, c.f, []byte("b"), tree); have != c.want {
			t.Errorf("%d, %+v: %d, not %d", i, c.f, have, c.want)
		}
		n, code := Count(g, c.f, []byte("b"))
		list, _ := Trees(g, c.f, []byte("b"), 9)
		if is := slices.ContainsFunc(list, func(x api.Tree) bool { return treeText(x) == treeText(tree) }); is != (c.want == api.OK) || n != len(list) || code != api.OK {
			t.Errorf("%d, %+v: %d trees, %s", i, c.f, n, treeTexts(list))
		}
	}
}

// A cyclic grammar has trees too, as deep as one likes.
func TestOkCyclic(t *testing.T) {
	g := gram(2, "A>A", "A>a", "A>BA", "B>")
	tree := node(1, leaf('a'))
	for range 1 << 16 {
		tree = node(0, tree)
	}
	for i, c := range []struct {
		f    api.Filters
		want api.Errno
	}{
		{api.Filters{}, api.OK}, {bans(ban(0, 0, 1)), api.ErrBan}, {bans(ban(0, 0, 0)), api.ErrBan}, {bans(ban(0, 0, 2), ban(2, 1, 1)), api.OK}, {reject(1), api.OK}, {reject(0), api.ErrRej}, {follow("a"), api.OK},
	} {
		if have := Ok(g, c.f, []byte("a"), tree); have != c.want {
			t.Errorf("%d: %d, not %d", i, have, c.want)
		}
	}
	if have := Ok(g, follow("", "a"), []byte("a"), node(2, node(3), node(1, leaf('a')))); have != api.ErrFoll {
		t.Errorf("%d", have)
	}
}
