package reach_test

import (
	"math/rand"
	"slices"
	"testing"

	"heirloom/api"
	"heirloom/reach"
)

// P11.3: what a live object leads to is live, and what it has that is not is cleared, or the key of what is.
func TestP11_3Live(t *testing.T) {
	m := maker{rand.New(rand.NewSource(113))}
	for i := range 20000 {
		g := m.graph(2 + i%20)
		for range m.Intn(2) {
			m.spoil(g)
		}
		f := reach.Collect(g)
		live := map[int64]int{}
		for _, h := range handles(f.Live) {
			live[int64(h)] = 1
		}
		for _, h := range handles(f.Live) {
			thing := g.Things[h-1]
			for _, v := range modelLeads(g, thing, live) {
				if modelObject(g, v) && live[v.N] == 0 {
					t.Fatalf("%v: %d is live and leads to %v, which is not", g, h, v)
				}
			}
			for slot, v := range thing.Slots {
				if !modelObject(g, v) || live[v.N] == 1 {
					continue
				}
				if isKey(thing, slot) {
					slot++
				}
				if !slices.Contains(f.Cleared, api.Entry{H: h, Slot: slot}) {
					t.Fatalf("%v: %d is live, its slot %d is not, and stays: %v", g, h, slot, f)
				}
			}
		}
	}
}

// isKey tells whether a slot is the key of a table's pair.
func isKey(t api.Thing, slot int) bool {
	return t.Kind == api.TTable && slices.ContainsFunc(modelSplit(t).pairs, func(p modelPair) bool { return p.slot == slot+1 })
}

// isWithin tells whether each object of a is one of b.
func isWithin(a, b []bool) bool {
	for i, is := range a {
		if is && !b[i] {
			return false
		}
	}
	return true
}

// P11.4: what is needed is needed with more roots and more handles, too.
func TestP11_4More(t *testing.T) {
	m := maker{rand.New(rand.NewSource(114))}
	for i := range 20000 {
		g := m.graph(2 + i%20)
		for range m.Intn(2) {
			m.spoil(g)
		}
		more := m.more(g)
		few := reach.Strong(g, more...)
		if !isWithin(few, reach.Strong(g, append(m.more(g), more...)...)) {
			t.Fatalf("%v: with more handles than %v fewer are needed", g, more)
		}
		wider := copyOf(g)
		wider.Roots = append(wider.Roots, m.value(g), m.odd(g))
		if !isWithin(few, reach.Strong(wider, more...)) {
			t.Fatalf("%v: with the roots %v fewer are needed", g, wider.Roots)
		}
		if !isWithin(few, reach.Strong(wider, append(more, m.more(g)...)...)) {
			t.Fatalf("%v: with more of both fewer are needed", g)
		}
	}
}

// The order in which roots and handles are told, and how often, is nothing.
func TestP11_4Order(t *testing.T) {
	m := maker{rand.New(rand.NewSource(1140))}
	for i := range 5000 {
		g := m.graph(2 + i%20)
		more := m.more(g)
		want := reach.Strong(g, more...)
		falling := copyOf(g)
		falling.Roots = append(falling.Roots, g.Roots...)
		slices.Reverse(falling.Roots)
		turned := append(slices.Clone(more), more...)
		slices.Reverse(turned)
		if got := reach.Strong(falling, turned...); !slices.Equal(got, want) {
			t.Fatalf("%v, %v: told in another order: %v, want %v", g, more, got, want)
		}
	}
}

// P11.5: without weak tables a way of slots is all that is asked.
func TestP11_5Ways(t *testing.T) {
	m := maker{rand.New(rand.NewSource(115))}
	for i := range 20000 {
		g := m.graph(2 + i%20)
		for j := range g.Things {
			g.Things[j].Weak = api.WeakNone
		}
		needed := make([]bool, len(g.Things))
		for _, v := range g.Roots {
			markWay(g, v, needed)
		}
		if got := reach.Strong(g); !slices.Equal(got, needed) {
			t.Fatalf("%v: needed are %v, want %v", g, got, needed)
		}
		f := reach.Collect(g)
		if len(f.Cleared) > 0 {
			t.Fatalf("%v: cleared are %v", g, f.Cleared)
		}
		for _, h := range f.Pending {
			markWay(g, tab(int64(h)), needed)
		}
		if !slices.Equal(f.Live, needed) {
			t.Fatalf("%v: live are %v, want %v", g, f.Live, needed)
		}
	}
}

func markWay(g api.Graph, v api.Value, needed []bool) {
	if !slices.Contains(kinds, v.T) || needed[v.N-1] {
		return
	}
	needed[v.N-1] = true
	for _, x := range g.Things[v.N-1].Slots {
		markWay(g, x, needed)
	}
}
