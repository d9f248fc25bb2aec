package parse

import (
	"slices"

	"heirloom/api"
)

// anyKind stands for a part that may be any tree.
const anyKind = 0

// hasParts tells whether a tree is of a kind that there is, with just the parts that the kind needs: where the chapter says of which kind one is, it must be of that.
func hasParts(n api.Node) bool {
	switch n.Kind {
	case api.NNil, api.NTrue, api.NFalse, api.NNumber, api.NText, api.NName, api.NTable, api.NBlock, api.NReturn, api.NBreak:
		return true
	case api.NFunc:
		return isFunction(n.L)
	case api.NBin, api.NIndex, api.NPair:
		return are(n.L, anyKind, anyKind)
	case api.NUn, api.NItem:
		return are(n.L, anyKind)
	case api.NCall:
		return len(n.L) > 0
	case api.NLocal:
		return 0 < n.Count && n.Count <= len(n.L) && all(n.L[:n.Count], api.NName)
	case api.NAssign:
		return 0 < n.Count && n.Count < len(n.L) && all(n.L[:n.Count], api.NName, api.NIndex)
	case api.NDo:
		return are(n.L, api.NCall)
	case api.NIf:
		return isChoice(n.L)
	case api.NWhile:
		return are(n.L, anyKind, api.NBlock)
	case api.NFor:
		return are(n.L, api.NName, anyKind, anyKind, api.NBlock) || are(n.L, api.NName, anyKind, anyKind, anyKind, api.NBlock)
	case api.NLocalFunc:
		return are(n.L, api.NName, api.NFunc)
	case api.NGroup:
		return are(n.L, api.NBlock)
	}
	return false
}

// are tells whether a list has just one part for each of the kinds.
func are(l []api.Node, kinds ...int) bool {
	if len(l) != len(kinds) {
		return false
	}
	for i, kind := range kinds {
		if kind != anyKind && l[i].Kind != kind {
			return false
		}
	}
	return true
}

// all tells whether each part is of one of the kinds.
func all(l []api.Node, kinds ...int) bool {
	for _, n := range l {
		if !slices.Contains(kinds, n.Kind) {
			return false
		}
	}
	return true
}

func isFunction(l []api.Node) bool {
	last := len(l) - 1
	return last >= 0 && l[last].Kind == api.NBlock && all(l[:last], api.NName)
}

// isChoice: a block stands behind each condition, and perhaps one more at the end.
func isChoice(l []api.Node) bool {
	for i, n := range l {
		if (i%2 == 1 || i == len(l)-1) && n.Kind != api.NBlock {
			return false
		}
	}
	return len(l) > 1
}
