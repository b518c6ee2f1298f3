package trees

import (
	"math"
	"testing"

	"tracery/api"
)

// P9.3: paths that lead somewhere.
func TestPaths(t *testing.T) {
	tree := node(0, leaf('a'), node(1, leaf('b'), node(2), odd(-1, 'c', leaf('d'), node(3))), odd(4, 5))
	put := odd(77, 8, odd(-1, 9, leaf('z')))
	for _, c := range []struct {
		path     []int
		at, with string
	}{
		{nil, all(tree), all(put)}, {[]int{}, all(tree), all(put)},
		{[]int{0}, "-1:97{}", "0:0{" + all(put) + "1:0{-1:98{}2:0{}-1:99{-1:100{}3:0{}}}4:5{}}"},
		{[]int{1}, "1:0{-1:98{}2:0{}-1:99{-1:100{}3:0{}}}", "0:0{-1:97{}" + all(put) + "4:5{}}"},
		{[]int{2}, "4:5{}", "0:0{-1:97{}1:0{-1:98{}2:0{}-1:99{-1:100{}3:0{}}}" + all(put) + "}"},
		{[]int{1, 0}, "-1:98{}", "0:0{-1:97{}1:0{" + all(put) + "2:0{}-1:99{-1:100{}3:0{}}}4:5{}}"},
		{[]int{1, 1}, "2:0{}", "0:0{-1:97{}1:0{-1:98{}" + all(put) + "-1:99{-1:100{}3:0{}}}4:5{}}"},
		{[]int{1, 2}, "-1:99{-1:100{}3:0{}}", "0:0{-1:97{}1:0{-1:98{}2:0{}" + all(put) + "}4:5{}}"},
		{[]int{1, 2, 1}, "3:0{}", "0:0{-1:97{}1:0{-1:98{}2:0{}-1:99{-1:100{}" + all(put) + "}}4:5{}}"}, // a leaf's kid is a kid
	} {
		at, e1 := At(tree, c.path)
		with, e2 := Put(tree, c.path, put)
		if e1 != api.OK || all(at) != c.at {
			t.Errorf("At %v: %s %d, not %s", c.path, all(at), e1, c.at)
		}
		if e2 != api.OK || all(with) != c.with {
			t.Errorf("Put at %v: %s %d, not %s", c.path, all(with), e2, c.with)
		}
	}
}

// P9.3: paths that lead nowhere.
func TestNoPaths(t *testing.T) {
	tree := node(0, leaf('a'), node(1, leaf('b'), node(2)))
	for _, path := range [][]int{
		{2}, {3}, {-1}, {math.MaxInt}, {math.MinInt}, // past the kids and below 0
		{1, 2}, {1, -1}, {1, 1, 0}, {1, 1, -1}, {2, 0}, {-1, 0}, {math.MinInt, 1},
		{0, 0}, {0, -1}, {1, 0, 0}, {0, 0, 0, 0}, // through a leaf
	} {
		at, e1 := At(tree, path)
		with, e2 := Put(tree, path, node(9, leaf('z')))
		if e1 != api.ErrNone || e2 != api.ErrNone || !Same(at, api.Tree{}) || !Same(with, api.Tree{}) {
			t.Errorf("%v: %s %d, %s %d", path, all(at), e1, all(with), e2)
		}
	}
	for _, tree := range []api.Tree{{}, leaf('a'), node(3), {Rule: 3, Kids: []api.Tree{}}} {
		for _, number := range []int{0, 1, -1} {
			if at, code := At(tree, []int{number}); code != api.ErrNone || !Same(at, api.Tree{}) {
				t.Errorf("%s at %d: %s %d", all(tree), number, all(at), code)
			}
		}
	}
	behind := node(0, leaf('a'), leaf('b'))
	behind.Kids = behind.Kids[:1]
	if at, code := At(behind, []int{1}); code != api.ErrNone || !Same(at, api.Tree{}) {
		t.Errorf("behind the kids: %s %d", all(at), code)
	}
}
