package trees

import (
	"tracery/api"
)

// hasKid tells whether a number is a kid's place.
func hasKid(t api.Tree, number int) bool { return 0 <= number && number < len(t.Kids) }

// At tells the tree to which a path leads.
func At(t api.Tree, path []int) (api.Tree, api.Errno) {
	for _, number := range path {
		if !hasKid(t, number) {
			return api.Tree{}, api.ErrNone
		}
		t = t.Kids[number]
	}
	return clone(t), api.OK
}

// Put tells a tree with another one in the place to which a path leads.
func Put(t api.Tree, path []int, s api.Tree) (api.Tree, api.Errno) {
	top := t
	place := &top
	for _, number := range path {
		if !hasKid(*place, number) {
			return api.Tree{}, api.ErrNone
		}
		place.Kids = copyKids(*place) // what is handed in is not written into
		place = &place.Kids[number]
	}
	*place = s
	return clone(top), api.OK
}

// clone is the same tree in new memory.
func clone(t api.Tree) api.Tree {
	waiting := []*api.Tree{&t}
	for len(waiting) > 0 {
		part := waiting[len(waiting)-1]
		waiting = waiting[:len(waiting)-1]
		part.Kids = copyKids(*part)
		for i := range part.Kids {
			waiting = append(waiting, &part.Kids[i])
		}
	}
	return t
}

// copyKids is the kids in a list of their own; their Kids are still the same lists.
func copyKids(t api.Tree) []api.Tree {
	if len(t.Kids) == 0 {
		return nil
	}
	list := make([]api.Tree, len(t.Kids))
	copy(list, t.Kids)
	return list
}
