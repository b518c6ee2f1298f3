package trees

import (
	"tracery/api"
	"tracery/kin"
)

// At tells the tree to which a path leads.
func At(t api.Tree, path []int) (api.Tree, api.Errno) { return kin.At(t, path, kin.OfTree) }

// Put tells a tree with another one in the place to which a path leads.
func Put(t api.Tree, path []int, s api.Tree) (api.Tree, api.Errno) {
	return kin.Put(t, path, s, kin.OfTree)
}
