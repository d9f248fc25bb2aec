package collect_test

import (
	"math"
	"testing"

	"heirloom/api"
)

// A long chain, each link of which leads to one that is needed and one that is not: no call takes time by squares, or room by depth.
func TestP13Many(t *testing.T) {
	const n = 40000
	var g api.Graph
	for h := 1; h <= 2*n; h += 2 {
		kind := kinds[1+h/2%5]
		next := none
		if h+2 <= 2*n {
			next = leading(kinds[1+(h+2)/2%5], h+2)
		}
		g.Things = append(g.Things, thing(kind, next), thing(api.TBox, leading(kind, h)))
	}
	g.Roots = []api.Value{leading(kinds[1], 1)}
	m, c := open(t, g)
	check(t, "Step", c.Step(math.MaxInt), true)
	check(t, "objects behind a cycle", len(m.Order()), n)
	c.SetMode(api.ModeGen)
	for i := range n {
		h := born(m, c, thing(api.TBox, none))
		if i%2 == 0 {
			put(m, c, 2*i+1, 0, box(h))
		}
	}
	check(t, "Young", c.Young(), false)
	check(t, "objects behind a young collection", len(m.Order()), n+n/2)
	c.Major()
	check(t, "objects behind Major", len(m.Order()), 2)
	checkRules(t, "Major", c)
}

// Many that are marked are taken in their order.
func TestP13ManyFinalisers(t *testing.T) {
	const n = 20000
	var g api.Graph
	for h := 1; h <= n; h++ {
		g.Things = append(g.Things, marked(h))
	}
	m, c := open(t, g)
	c.Major()
	l := takeAll(c)
	check(t, "how many", len(l), n)
	for i, h := range l {
		if h != n-i {
			t.Fatalf("%d is taken in the place %d", h, i)
		}
	}
	c.Major()
	check(t, "objects", len(m.Order()), 0)
}
