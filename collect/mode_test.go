package collect_test

import (
	"testing"

	"heirloom/api"
	"heirloom/collect"
)

func TestP13_6SetModeNone(t *testing.T) {
	eachState(t, func(name string, m *collect.Mem, c *collect.Collector) {
		born(m, c, table())
		m.Add(table())
		ahead := c.View()
		for _, mode := range append([]int{ahead.Mode}, noModes...) {
			c.SetMode(mode)
			if got := c.View(); !same(got, ahead) {
				t.Errorf("%s: SetMode(%d): %v, want %v", name, mode, got, ahead)
			}
		}
	})
}

// To generations: everything is collected, in whichever phase it was.
func TestP13_6SetModeGen(t *testing.T) {
	for units := range 12 {
		m, c := open(t, graph([]int{1}, table(tab(2)), table(str(3)), thing(api.TStr), table(), marked(2)))
		ended := c.Step(units)
		m.Set(1, 0, none)
		white := c.White()
		c.SetMode(api.ModeGen)
		checkList(t, "Order", m.Order(), 1, 5)
		want := api.View{Mode: api.ModeGen, White: 1 - white, Pending: []int{5}, Seen: []api.Seen{
			{H: 1, Thing: table(none), Colour: api.Black, Age: api.Old},
			{H: 5, Thing: table(), Colour: api.Black, Age: api.Old}}}
		if got := c.View(); !same(got, want) {
			t.Errorf("behind %d units (%v): %v, want %v", units, ended, got, want)
		}
	}
}

// Back to steps: nothing is collected, all is new.
func TestP13_6SetModeInc(t *testing.T) {
	m, c := openGen(t, graph([]int{1, 2}, table(none), thing(api.TBox, none), table(), marked(3)))
	old := born(m, c, table())
	put(m, c, 1, 0, tab(old))
	c.Young()
	h := born(m, c, table())
	put(m, c, 1, 0, tab(h))
	put(m, c, 2, 0, tab(h))
	other := born(m, c, table())
	put(m, c, 2, 0, tab(other))
	v := c.View()
	check(t, "lists that are full", len(v.Grey)*len(v.Again)*len(v.Pending), 2)
	white := c.White()
	c.SetMode(api.ModeInc)
	want := api.View{Mode: api.ModeInc, White: white, Pending: []int{4}}
	for _, s := range v.Seen {
		s.Colour, s.Age = white, api.New
		want.Seen = append(want.Seen, s)
	}
	if got := c.View(); !same(got, want) {
		t.Errorf("SetMode: %v, want %v", got, want)
	}
	checkRules(t, "SetMode", c)
	check(t, "Step", c.Step(100), true)
	checkList(t, "Order", m.Order(), 1, 2, 4, h, other)
}

// There and back in each phase: no unit of the cycle that was under way is done then.
func TestP13_6ThereAndBack(t *testing.T) {
	for units := range 14 {
		m, c := open(t, graph([]int{1}, table(tab(2), tab(3)), table(), table(), table(), table()))
		c.Step(units)
		c.SetMode(api.ModeGen)
		checkRules(t, "there", c)
		c.SetMode(api.ModeInc)
		checkRules(t, "back", c)
		check(t, "phase", c.View().Phase, api.PhasePause)
		check(t, "Step", c.Step(8), false)
		check(t, "Step", c.Step(1), true)
		checkList(t, "Order", m.Order(), 1, 2, 3)
	}
}

func TestP13_6Take(t *testing.T) {
	m, c := open(t, graph(nil, marked(1), marked(3), marked(2)))
	h, is := c.Take()
	check(t, "Take of nothing", h, 0)
	check(t, "Take of nothing", is, false)
	c.Major()
	for _, want := range []int{2, 3, 1} {
		h, is := c.Take()
		check(t, "Take", h, want)
		check(t, "Take", is, true)
	}
	h, is = c.Take()
	check(t, "Take of nothing more", h, 0)
	check(t, "Take of nothing more", is, false)
	checkList(t, "what was taken is there still", m.Order(), 1, 2, 3)
	c.Major()
	check(t, "objects", len(m.Order()), 0)
}

// What stays pending is held, whatever is collected; one that is gone all the same is taken just as well.
func TestP13_6TakeLater(t *testing.T) {
	m, c := open(t, graph(nil, marked(1, tab(4)), marked(3), marked(2), table()))
	c.Step(100)
	h, _ := c.Take()
	check(t, "Take", h, 2)
	late := born(m, c, marked(1))
	c.Step(100)
	c.SetMode(api.ModeGen)
	c.Young()
	c.Major()
	checkList(t, "Order", m.Order(), 1, 3, 4, late)
	m.Drop(1)
	c.Major()
	c.SetMode(api.ModeInc)
	c.Step(100)
	checkList(t, "Pending", takeAll(c), 3, 1, late)
}
