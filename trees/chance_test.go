package trees

import (
	"fmt"
	"math/rand"
	"slices"
	"strings"
	"testing"

	"tracery/api"
	"tracery/charset"
	"tracery/forest"
)

// anyTree is a tree by chance; of a wild one all fields are.
func anyTree(r *rand.Rand, deep int, wild bool) api.Tree {
	t := leaf(byte(r.Intn(256)))
	if r.Intn(3) > 0 {
		t = node(r.Intn(1 << r.Intn(20)))
	}
	if wild && r.Intn(8) == 0 {
		t.Rule = []int{-1, -2, 1000000, 999999, -1 << 62}[r.Intn(5)]
		t.Byte = byte(r.Intn(3))
	}
	if deep > 1 && (t.Rule != -1 || wild && r.Intn(4) == 0) {
		for range r.Intn(4) {
			t.Kids = append(t.Kids, anyTree(r, deep-1, wild))
		}
	}
	return t
}

// slowTell is the document's words of a tree, told by calls that call themselves.
func slowTell(t api.Tree) told {
	var spans []string
	var look func(t api.Tree, at int, hidden bool) (string, int, int)
	look = func(t api.Tree, at int, hidden bool) (string, int, int) {
		number := len(spans)
		spans = append(spans, "")
		yield, size, deep := "", 1, 0
		if t.Rule == -1 && !hidden {
			yield = string([]byte{t.Byte})
		}
		for _, kid := range t.Kids {
			y, s, d := look(kid, at+len(yield), hidden || t.Rule == -1)
			yield += y
			size += s
			deep = max(deep, d)
		}
		spans[number] = fmt.Sprintf("%d-%d", at, at+len(yield))
		return yield, size, deep + 1
	}
	yield, size, deep := look(t, 0, false)
	return told{yield, size, deep, strings.Join(spans, " ")}
}

// slowText is a tree's text, and whether it has one.
func slowText(t api.Tree) (string, bool) {
	if t.Rule == -1 {
		return fmt.Sprintf("x%02x", t.Byte), len(t.Kids) == 0
	}
	var list []string
	plain := t.Byte == 0 && t.Rule >= 0 && t.Rule < 1000000
	for _, kid := range t.Kids {
		text, is := slowText(kid)
		list = append(list, text)
		plain = plain && is
	}
	return fmt.Sprintf("%d(%s)", t.Rule, strings.Join(list, " ")), plain
}

// P9.2, P9.4 and P9.5 of any trees.
func TestByWords(t *testing.T) {
	r := rand.New(rand.NewSource(9))
	count := map[bool]int{}
	for i := range 20000 {
		tree := anyTree(r, 1+r.Intn(6), i%2 == 0)
		if have, want := tell(tree), slowTell(tree); have != want {
			t.Fatalf("%s:\n%+v\n, not\n%+v", all(tree), have, want)
		}
		text, code := Print(tree)
		want, plain := slowText(tree)
		count[plain]++
		if !plain {
			if text != "" || code != api.ErrTree {
				t.Fatalf("%s: %q %d", all(tree), text, code)
			}
			continue
		}
		if text != want || code != api.OK {
			t.Fatalf("%s: %q %d", all(tree), text, code)
		}
		if back, fault := Parse(text); !Same(back, tree) || fault != (api.Fault{}) {
			t.Fatalf("%q: %s %v", text, all(back), fault)
		}
		if other := anyTree(r, 3, i%2 == 0); Same(other, tree) != (all(other) == all(tree)) {
			t.Fatalf("%s is the same as %s", all(other), all(tree))
		}
	}
	if count[true] < 5000 || count[false] < 1000 {
		t.Errorf("%v", count)
	}
}

// P9.5: Print of Parse is the text; what was changed by a byte is another tree, or none, and its fault stands no further left than the change.
func TestChangedTexts(t *testing.T) {
	r := rand.New(rand.NewSource(95))
	count := map[api.Errno]int{}
	for range 30000 {
		text, _ := Print(anyTree(r, 1+r.Intn(5), false))
		at := r.Intn(len(text))
		b := "0123456789abcdefABF()x -,"[r.Intn(25)]
		changed := text[:at] + string(b) + text[at+r.Intn(2):]
		tree, fault := Parse(changed)
		count[fault.Code]++
		again, code := Print(tree)
		switch {
		case fault.Code == api.OK && (again != changed || code != api.OK):
			t.Fatalf("%q: %q %d", changed, again, code)
		case fault.Code != api.OK && (fault.At < at || !Same(tree, api.Tree{})):
			t.Fatalf("%q: %s %v", changed, all(tree), fault)
		case fault.Code == api.ErrShort && fault.At != len(changed):
			t.Fatalf("%q: %v", changed, fault)
		}
	}
	for _, code := range []api.Errno{api.OK, api.ErrByte, api.ErrShort, api.ErrRest} {
		if count[code] < 50 {
			t.Errorf("%v", count)
		}
	}
}

// paths is all paths of a tree, each ahead of those that it begins.
func paths(t api.Tree, to []int) [][]int {
	list := [][]int{to}
	for i, kid := range t.Kids {
		list = append(list, paths(kid, append(slices.Clone(to), i))...)
	}
	return list
}

// P9.6: what is put is there, and all that lies beside is as it was.
func TestPutAndAt(t *testing.T) {
	r := rand.New(rand.NewSource(96))
	for range 3000 {
		tree, put := anyTree(r, 1+r.Intn(5), true), anyTree(r, 1+r.Intn(3), true)
		before := all(tree)
		list := paths(tree, nil)
		if n, _ := Size(tree); n != len(list) {
			t.Fatalf("%s: %d paths", before, len(list))
		}
		path := list[r.Intn(len(list))]
		with, code := Put(tree, path, put)
		there, e := At(with, path)
		if code != api.OK || e != api.OK || !Same(there, put) || all(tree) != before {
			t.Fatalf("%s, %v: %s %d, there %s %d", before, path, all(with), code, all(there), e)
		}
		for _, other := range list {
			n := min(len(other), len(path))
			if slices.Equal(other[:n], path[:n]) {
				continue
			}
			a, e1 := At(tree, other)
			b, e2 := At(with, other)
			if e1 != api.OK || e2 != api.OK || !Same(a, b) {
				t.Fatalf("%s, %v: beside it, at %v, is %s %d", before, path, other, all(b), e2)
			}
		}
		was, _ := At(tree, path)
		if back, code := Put(with, path, was); code != api.OK || !Same(back, tree) {
			t.Fatalf("%s: put back %s %d", before, all(back), code)
		}
	}
}

// P9.7: a yield is the kids' yields; spans lie within one another, and side by side.
func TestYieldsAndSpans(t *testing.T) {
	r := rand.New(rand.NewSource(97))
	for range 5000 {
		tree := anyTree(r, 1+r.Intn(6), false)
		yield := Yield(tree)
		spans := Spans(tree)
		list := paths(tree, nil)
		if len(spans) != len(list) || spans[0] != (api.Run{Hi: len(yield)}) {
			t.Fatalf("%s: %v", all(tree), spans)
		}
		for i, path := range list {
			part, _ := At(tree, path)
			if s := spans[i]; string(yield[s.Lo:s.Hi]) != string(Yield(part)) {
				t.Fatalf("%s at %v: %v", all(tree), path, s)
			}
			var kids []byte
			end := spans[i].Lo
			for j, kid := range part.Kids {
				k := slices.IndexFunc(list, func(p []int) bool { return slices.Equal(p, append(slices.Clone(path), j)) })
				if spans[k].Lo != end {
					t.Fatalf("%s at %v: kid %d is %v", all(tree), path, j, spans[k])
				}
				end = spans[k].Hi
				kids = append(kids, Yield(kid)...)
			}
			if part.Rule != -1 && (end != spans[i].Hi || string(kids) != string(Yield(part))) {
				t.Fatalf("%s at %v: the kids yield %q", all(tree), path, kids)
			}
		}
	}
}

// P9.1 and P9.8: a right tree stays right, if a right one of the same nonterminal is put in a node's place, and no other one.
func TestPutRight(t *testing.T) {
	r := rand.New(rand.NewSource(98))
	g := gram(3, "A>A+A", "A>B", "B>#", "B>(A)C", "C>", "C>,C", "B>x#", "B>,B")
	var list []api.Tree
	for _, w := range []string{"1", "1+2", "1+2+3", "(1+2)+3", "(1),,", "x1+(x2+3),", ",1"} {
		some, code := forest.Trees(g, []byte(w), 20)
		if code != api.OK || len(some) == 0 {
			t.Fatalf("%q: %d trees, %d", w, len(some), code)
		}
		list = append(list, some...)
	}
	count := map[api.Errno]int{}
	for range 20000 {
		tree, other := list[r.Intn(len(list))], list[r.Intn(len(list))]
		from, to := paths(other, nil), paths(tree, nil)
		s, _ := At(other, from[r.Intn(len(from))])
		path := to[r.Intn(len(to))]
		there, _ := At(tree, path)
		if r.Intn(10) == 0 {
			s = anyTree(r, 3, true)
		}
		with, _ := Put(tree, path, s)
		want := api.ErrTree
		if isRight(g, 0, with) {
			want = api.OK
		}
		count[want]++
		if have := Right(g, 0, with); have != want {
			t.Fatalf("%s: %d", all(with), have)
		}
		if there.Rule >= 0 && want != Right(g, g.Rules[there.Rule].Lhs, s) {
			t.Fatalf("%s at %v: %s is put", all(tree), path, all(s))
		}
	}
	if count[api.OK] < 2000 || count[api.ErrTree] < 2000 {
		t.Errorf("%v", count)
	}
}

// isRight is the document's words of a tree of a nonterminal.
func isRight(g api.Gram, nt int, t api.Tree) bool {
	if t.Rule < 0 || t.Rule >= len(g.Rules) || t.Byte != 0 || g.Rules[t.Rule].Lhs != nt || len(t.Kids) != len(g.Rules[t.Rule].Rhs) {
		return false
	}
	for i, s := range g.Rules[t.Rule].Rhs {
		kid := t.Kids[i]
		if s.Nt >= 0 && !isRight(g, s.Nt, kid) || s.Nt < 0 && (kid.Rule != -1 || len(kid.Kids) > 0 || !charset.Has(s.Set, kid.Byte)) {
			return false
		}
	}
	return true
}
