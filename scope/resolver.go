package scope

import (
	"cmp"
	"slices"

	"heirloom/api"
)

// function is the one that the walk is in: its number, how many variables were known as it began, how many of its own there were up to now.
type function struct{ number, base, made int }

// resolver walks through a tree, in the order in which its variables become known.
type resolver struct {
	known known
	in    function
	count int              // how many functions have begun, but for the source itself
	far   map[variable]int // of each variable: how many names for it stand in other functions than its own
	uses  []api.Use
	at    int
	err   api.Errno
}

func newResolver() *resolver {
	return &resolver{known: newKnown(), far: map[variable]int{}}
}

func (r *resolver) walk(n api.Node) {
	last := len(n.L) - 1
	switch n.Kind {
	case api.NName:
		r.use(n, r.known.last(n.Text))
	case api.NFunc:
		r.function(n.L[:last], n.L[last:])
	case api.NBlock:
		r.block(nil, n.L)
	case api.NLocal:
		r.all(n.L[n.Count:]) // ahead of its names: they are not known in their own list
		r.learn(n.L[:n.Count])
	case api.NFor:
		r.all(n.L[1:last])
		r.block(n.L[:1], n.L[last:])
	case api.NLocalFunc:
		r.learn(n.L[:1])
		r.all(n.L[1:])
	default:
		r.all(n.L)
	}
}

func (r *resolver) all(l []api.Node) {
	for _, n := range l {
		r.walk(n)
	}
}

func (r *resolver) function(params, body []api.Node) {
	around := r.in
	r.count++
	r.in = function{number: r.count, base: r.known.size()}
	r.block(params, body)
	r.in = around
}

// block has names that are known in all of it; behind it nothing is known that became known in it.
func (r *resolver) block(names, inner []api.Node) {
	size := r.known.size()
	r.learn(names)
	r.all(inner)
	r.known.cut(size)
}

// learn makes the variables known that names stand for.
func (r *resolver) learn(names []api.Node) {
	for _, n := range names {
		if r.err == api.OK && r.known.size()-r.in.base == api.MaxLocals {
			r.at, r.err = n.At, api.ErrMany
		}
		v := variable{r.in.number, r.in.made}
		r.in.made++
		r.known.push(n.Text, v)
		r.use(n, v)
	}
}

func (r *resolver) use(n api.Node, v variable) {
	if v.of != global && v.of != r.in.number {
		r.far[v]++
	}
	r.uses = append(r.uses, api.Use{At: n.At, Text: n.Text, Fun: r.in.number, Of: v.of, Var: v.number})
}

// found is the uses by rising place. Which variables are held is known only now: the last name may be the one that holds.
func (r *resolver) found() []api.Use {
	for i, u := range r.uses {
		r.uses[i].Held = r.far[variable{u.Of, u.Var}] > 0
	}
	slices.SortFunc(r.uses, func(a, b api.Use) int { return cmp.Compare(a.At, b.At) })
	return r.uses
}
