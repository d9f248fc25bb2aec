package code

import (
	"heirloom/api"
	"heirloom/num"
)

// folder has the signs at hand: a tree may have many of them.
type folder struct{ signs map[string]sign }

// fold begins with the leaves, so that what was reckoned is reckoned with.
func (f folder) fold(n api.Node) api.Node {
	var parts []api.Node
	for _, part := range n.L {
		parts = append(parts, f.fold(part))
	}
	n.L = parts
	if v, err := f.reckon(n); err == api.OK {
		return api.Node{Kind: api.NNumber, V: v, At: n.At}
	}
	return n
}

// reckon needs no care for what a NNumber says: num refuses what is no number.
func (f folder) reckon(n api.Node) (api.Value, api.Errno) {
	for _, part := range n.L {
		if part.Kind != api.NNumber {
			return api.Value{}, api.ErrForm
		}
	}
	switch {
	case n.Kind == api.NBin && len(n.L) == 2:
		return num.Op(f.signs[n.Text].reckoned, n.L[0].V, n.L[1].V)
	case n.Kind == api.NUn && len(n.L) == 1 && n.Text == "-":
		return num.Neg(n.L[0].V)
	}
	return api.Value{}, api.ErrForm
}
