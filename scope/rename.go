package scope

import (
	"strconv"

	"heirloom/api"
)

// rename gives a tree's names their new texts, and tells which uses are left for the names behind it. It relies on names standing in a tree by rising place, as the uses do.
func rename(n *api.Node, uses []api.Use) []api.Use {
	if n.Kind == api.NName {
		n.Text = newName(uses[0])
		return uses[1:]
	}
	for i := range n.L {
		uses = rename(&n.L[i], uses)
	}
	return uses
}

// newName is a text that no other variable has, and no global.
func newName(u api.Use) string {
	if u.Of == global {
		return "g" + u.Text
	}
	return "v" + strconv.Itoa(u.Of) + "_" + strconv.Itoa(u.Var)
}
