// Package kin has what trees, terms and documents share: they have kids of their own kind. Each call is told by a function where a thing has them.
package kin

import (
	"iter"
	"slices"

	"tracery/api"
)

// Kids tells where a thing has its kids.
type Kids[T any] func(t *T) *[]T

// OfTree tells where a tree has its kids.
func OfTree(t *api.Tree) *[]api.Tree { return &t.Kids }

// OfTerm tells where a term has its kids.
func OfTerm(t *api.Term) *[]api.Term { return &t.Kids }

// OfDoc tells where a document has its kids.
func OfDoc(d *api.Doc) *[]api.Doc { return &d.Kids }

// row is kids that are still to come, and how deep they lie.
type row[T any] struct {
	kids []T
	deep int
}

// Parts goes through a thing and all that lies in it, each ahead of its kids, these from the left, and tells how deep each lies, the thing itself at 1. It has a list of its own of what is still to come, since things may be deeper than calls can.
func Parts[T any](t *T, kids Kids[T]) iter.Seq2[*T, int] {
	return func(yield func(part *T, deep int) bool) {
		var rows []row[T] // none of them is empty
		for part, deep := t, 1; yield(part, deep); {
			if list := *kids(part); len(list) > 0 {
				rows = append(rows, row[T]{list, deep + 1})
			}
			if len(rows) == 0 {
				return
			}
			last := &rows[len(rows)-1]
			part, deep = &last.kids[0], last.deep
			last.kids = last.kids[1:]
			if len(last.kids) == 0 {
				rows = rows[:len(rows)-1]
			}
		}
	}
}

// Size tells of how many things a thing is made, itself too, and how deep it is.
func Size[T any](t T, kids Kids[T]) (int, int) {
	size, deepest := 0, 0
	for _, deep := range Parts(&t, kids) {
		size++
		deepest = max(deepest, deep)
	}
	return size, deepest
}

// Same tells whether two things are alike, and all that lies in them.
func Same[T any](a, b T, kids Kids[T], alike func(a, b *T) bool) bool {
	type pair struct{ a, b *T }
	waiting := []pair{{&a, &b}}
	for len(waiting) > 0 {
		p := waiting[len(waiting)-1]
		waiting = waiting[:len(waiting)-1]
		left, right := *kids(p.a), *kids(p.b)
		if !alike(p.a, p.b) || len(left) != len(right) {
			return false
		}
		for i := range left {
			waiting = append(waiting, pair{&left[i], &right[i]})
		}
	}
	return true
}

// Clone is the same thing, all lists of kids in new memory. They stand in one list, one behind the other, each cut off at its end: what is written into one, or behind it, is not seen in another.
func Clone[T any](t T, kids Kids[T]) T {
	size, _ := Size(t, kids)
	all := make([]T, 0, size) // it never grows, so what lies in it stays where it is
	all = append(all, t)
	for i := 0; i < len(all); i++ {
		list := kids(&all[i])
		if len(*list) == 0 {
			*list = nil
			continue
		}
		from := len(all)
		all = append(all, *list...)
		*list = all[from:len(all):len(all)]
	}
	return all[0]
}

// At tells the part to which a path leads, in new memory.
func At[T any](t T, path []int, kids Kids[T]) (T, api.Errno) {
	for _, number := range path {
		list := *kids(&t)
		if !has(list, number) {
			var none T
			return none, api.ErrNone
		}
		t = list[number]
	}
	return Clone(t, kids), api.OK
}

// Put tells a thing with another one in the place to which a path leads, in new memory.
func Put[T any](t T, path []int, s T, kids Kids[T]) (T, api.Errno) {
	place := &t
	for _, number := range path {
		list := kids(place)
		if !has(*list, number) {
			var none T
			return none, api.ErrNone
		}
		*list = slices.Clone(*list) // what is handed in is not written into
		place = &(*list)[number]
	}
	*place = s
	return Clone(t, kids), api.OK
}

// has tells whether a number is a place of a list.
func has[T any](list []T, number int) bool { return 0 <= number && number < len(list) }
