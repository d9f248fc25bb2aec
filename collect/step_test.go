package collect_test

import (
	"math"
	"slices"
	"testing"

	"heirloom/api"
	"heirloom/collect"
)

// A moment is what a cycle has behind a unit; the colours are those of the objects that are there.
type moment struct {
	phase, white         int
	grey, again, pending []int
	order, colours       []int
}

func momentOf(c *collect.Collector) moment {
	v := c.View()
	m := moment{phase: v.Phase, white: v.White, grey: v.Grey, again: v.Again, pending: v.Pending}
	for _, s := range v.Seen {
		m.order = append(m.order, s.H)
		m.colours = append(m.colours, s.Colour)
	}
	return m
}

func checkMoments(t *testing.T, c *collect.Collector, l []moment) {
	t.Helper()
	for i, want := range l {
		last := i == len(l)-1
		check(t, "Step", c.Step(1), last)
		got := momentOf(c)
		if got.phase != want.phase || got.white != want.white {
			t.Fatalf("behind unit %d: %v, want %v", i+1, got, want)
		}
		for j, pair := range [][2][]int{{got.grey, want.grey}, {got.again, want.again}, {got.pending, want.pending}, {got.order, want.order}, {got.colours, want.colours}} {
			if !slices.Equal(pair[0], pair[1]) {
				t.Fatalf("behind unit %d: %v, want %v (list %d)", i+1, got, want, j)
			}
		}
	}
}

const (
	w0 = api.White0
	w1 = api.White1
	g  = api.Grey
	b  = api.Black
)

// The roots lead to the box 2 and, twice, to the table 1, which leads to the string 4, and by 3 to itself; 5 is not needed.
func TestP13_3Units(t *testing.T) {
	m, c := open(t, graph([]int{2, 1, 1}, table(none, fun(3), str(4)), thing(api.TBox, none), thing(api.TFunc, tab(1)), thing(api.TStr), thing(api.TThread, tab(1), str(4))))
	all := []int{1, 2, 3, 4, 5}
	checkMoments(t, c, []moment{
		{phase: api.PhaseMark, grey: []int{2, 1}, order: all, colours: []int{g, g, w0, w0, w0}},
		{phase: api.PhaseMark, grey: []int{2, 3}, order: all, colours: []int{b, g, g, b, w0}},
		{phase: api.PhaseMark, grey: []int{2}, order: all, colours: []int{b, g, b, b, w0}},
		{phase: api.PhaseMark, order: all, colours: []int{b, b, b, b, w0}},
		{phase: api.PhaseSweep, white: w1, order: all, colours: []int{b, b, b, b, w0}},
		{phase: api.PhaseSweep, white: w1, order: all, colours: []int{w1, b, b, b, w0}},
		{phase: api.PhaseSweep, white: w1, order: all, colours: []int{w1, w1, b, b, w0}},
		{phase: api.PhaseSweep, white: w1, order: all, colours: []int{w1, w1, w1, b, w0}},
		{phase: api.PhaseSweep, white: w1, order: all, colours: []int{w1, w1, w1, w1, w0}},
		{phase: api.PhaseSweep, white: w1, order: all[:4], colours: []int{w1, w1, w1, w1}},
		{phase: api.PhasePause, white: w1, order: all[:4], colours: []int{w1, w1, w1, w1}},
	})
	m.SetRoots(fun(3))
	checkMoments(t, c, []moment{
		{phase: api.PhaseMark, white: w1, grey: []int{3}, order: all[:4], colours: []int{w1, w1, g, w1}},
		{phase: api.PhaseMark, white: w1, grey: []int{1}, order: all[:4], colours: []int{g, w1, b, w1}},
		{phase: api.PhaseMark, white: w1, order: all[:4], colours: []int{b, w1, b, b}},
		{phase: api.PhaseSweep, white: w0, order: all[:4], colours: []int{b, w1, b, b}},
		{phase: api.PhaseSweep, white: w0, order: all[:4], colours: []int{w0, w1, b, b}},
		{phase: api.PhaseSweep, white: w0, order: []int{1, 3, 4}, colours: []int{w0, b, b}},
		{phase: api.PhaseSweep, white: w0, order: []int{1, 3, 4}, colours: []int{w0, w0, b}},
		{phase: api.PhaseSweep, white: w0, order: []int{1, 3, 4}, colours: []int{w0, w0, w0}},
		{phase: api.PhasePause, white: w0, order: []int{1, 3, 4}, colours: []int{w0, w0, w0}},
	})
}

// A weak table is put off till the end of marking; what is marked for a finaliser is found there; what is pending is marked behind the roots.
func TestP13_3UnitsOfWeak(t *testing.T) {
	_, c := open(t, graph([]int{1}, weak(api.WeakKeys, 1, tab(2), tab(3), tab(5), tab(4)), table(), table(), table(), marked(1), marked(2)))
	all := []int{1, 2, 3, 4, 5, 6}
	checkMoments(t, c, []moment{
		{phase: api.PhaseMark, grey: []int{1}, order: all, colours: []int{g, w0, w0, w0, w0, w0}},
		{phase: api.PhaseMark, grey: []int{2}, again: []int{1}, order: all, colours: []int{g, g, w0, w0, w0, w0}},
		{phase: api.PhaseMark, again: []int{1}, order: all, colours: []int{g, b, w0, w0, w0, w0}},
		{phase: api.PhaseSweep, white: w1, pending: []int{6, 5}, order: all, colours: []int{b, b, b, b, b, b}},
		{phase: api.PhaseSweep, white: w1, pending: []int{6, 5}, order: all, colours: []int{w1, b, b, b, b, b}},
		{phase: api.PhaseSweep, white: w1, pending: []int{6, 5}, order: all, colours: []int{w1, w1, b, b, b, b}},
		{phase: api.PhaseSweep, white: w1, pending: []int{6, 5}, order: all, colours: []int{w1, w1, w1, b, b, b}},
		{phase: api.PhaseSweep, white: w1, pending: []int{6, 5}, order: all, colours: []int{w1, w1, w1, w1, b, b}},
		{phase: api.PhaseSweep, white: w1, pending: []int{6, 5}, order: all, colours: []int{w1, w1, w1, w1, w1, b}},
		{phase: api.PhaseSweep, white: w1, pending: []int{6, 5}, order: all, colours: []int{w1, w1, w1, w1, w1, w1}},
		{phase: api.PhasePause, white: w1, pending: []int{6, 5}, order: all, colours: []int{w1, w1, w1, w1, w1, w1}},
	})
	check(t, "Step", c.Step(1), false)
	checkList(t, "Grey", c.View().Grey, 1, 6, 5)
}

// Of nothing a cycle has three units.
func TestP13_3Empty(t *testing.T) {
	_, c := open(t, api.Graph{})
	for i := range 6 {
		for j, phase := range []int{api.PhaseMark, api.PhaseSweep, api.PhasePause} {
			check(t, "Step", c.Step(1), j == 2)
			check(t, "phase", c.View().Phase, phase)
		}
		check(t, "White", c.White(), (i+1)%2)
	}
	check(t, "Step(2)", c.Step(2), false)
	check(t, "Step(2)", c.Step(2), true)
	check(t, "Step(3)", c.Step(3), true)
	check(t, "White", c.White(), api.White0)
}

// A step ends with the cycle, however many units it may have.
func TestP13_3Many(t *testing.T) {
	for _, k := range []int{12, 13, 24, 1000, math.MaxInt} {
		m, c := open(t, graph([]int{1}, table(tab(2), tab(3)), table(), table(), table(), table()))
		check(t, "Step(10)", c.Step(10), false)
		check(t, "Step(1)", c.Step(1), true)
		checkList(t, "Order", m.Order(), 1, 2, 3)
		m.SetRoots()
		check(t, "Step", c.Step(k), true)
		check(t, "White", c.White(), api.White0)
		check(t, "phase", c.View().Phase, api.PhasePause)
		check(t, "objects", len(m.Order()), 0)
	}
}

func TestP13_3None(t *testing.T) {
	eachState(t, func(name string, m *collect.Mem, c *collect.Collector) {
		ahead := c.View()
		for _, k := range []int{0, -1, -2, math.MinInt} {
			check(t, name, c.Step(k), false)
		}
		if c.View().Mode == api.ModeGen {
			for _, k := range []int{1, 2, 100, math.MaxInt} {
				check(t, name, c.Step(k), false)
			}
		}
		if got := c.View(); !same(got, ahead) {
			t.Errorf("%s: %v, want %v", name, got, ahead)
		}
	})
}

// What is born while it is swept is not; what was to be swept and is gone does no harm.
func TestP13_3Sweep(t *testing.T) {
	m, c := open(t, graph([]int{1}, table(), table(), table(), table()))
	toPhase(t, c, api.PhaseSweep)
	h := m.Add(table())
	c.Birth(h)
	m.Drop(1)
	m.Drop(3)
	for _, want := range [][]int{{2, 4, 5}, {4, 5}, {4, 5}, {5}} {
		check(t, "Step", c.Step(1), false)
		checkList(t, "behind unit", m.Order(), want...)
		check(t, "phase", c.View().Phase, api.PhaseSweep)
	}
	check(t, "Step", c.Step(1), true)
	checkLooks(t, "born", m, h, api.White1, api.New)
	check(t, "Step", c.Step(100), true)
	check(t, "objects behind one more cycle", len(m.Order()), 0)
}

// One that is to be swept is of the current white and New then, whatever it was.
func TestP13_3SweepLooks(t *testing.T) {
	for _, colour := range []int{api.White1, api.Grey, api.Black} {
		for _, age := range allAges {
			m, c := open(t, graph([]int{1}, table(), table()))
			toPhase(t, c, api.PhaseSweep)
			m.SetColour(2, colour)
			m.SetAge(2, age)
			c.Step(2)
			checkLooks(t, "swept", m, 2, api.White1, api.New)
		}
	}
}

// What is let go while marking goes on, once it is marked, lives till the next cycle; what is not marked yet goes.
func TestP13_3LetGo(t *testing.T) {
	m, c := open(t, graph([]int{1, 2}, table(tab(3)), table(tab(4)), table(), table()))
	c.Step(2)
	m.SetRoots()
	m.Set(1, 0, none)
	check(t, "Step", c.Step(100), true)
	checkList(t, "Order", m.Order(), 1, 2, 4)
	check(t, "Step", c.Step(100), true)
	check(t, "objects", len(m.Order()), 0)
}

// What is made and put somewhere while marking goes on lives, by the roots or by what it was written into.
func TestP13_3Made(t *testing.T) {
	for _, kind := range kinds[1:] {
		m, c := open(t, graph([]int{1}, thing(kind, none)))
		c.Step(2)
		checkLooks(t, "gone through", m, 1, api.Black, api.New)
		h := m.Add(table(none))
		c.Birth(h)
		m.Set(1, 0, tab(h))
		c.Write(1, tab(h))
		held, gone := m.Add(table()), m.Add(table())
		c.Birth(held)
		c.Birth(gone)
		m.SetRoots(leading(kind, 1), tab(held))
		checkRules(t, "made", c)
		check(t, "Step", c.Step(100), true)
		checkList(t, "Order", m.Order(), 1, h, held)
	}
}

// Values that lead to what is gone, or to another kind, lead nowhere.
func TestP13_3Nowhere(t *testing.T) {
	m, c := open(t, graph([]int{1}, table(none, none, none, none), table(), table(), thing(api.TBox, none)))
	m.Set(1, 1, tab(2))
	m.Set(1, 2, box(3))
	m.Set(1, 3, str(4))
	m.SetRoots(tab(1), box(1), str(3), tab(9), tab(0), tab(-1))
	m.Drop(2)
	check(t, "Step", c.Step(100), true)
	checkList(t, "Order", m.Order(), 1)
	checkSlots(t, "they stay", m, 1, none, tab(2), box(3), str(4))
}

// One of Grey that is gone is passed over.
func TestP13_3GoneGrey(t *testing.T) {
	m, c := open(t, graph([]int{1, 2}, table(), table(tab(3)), table()))
	c.Step(1)
	m.Drop(2)
	check(t, "Step", c.Step(1), false)
	checkList(t, "Grey", c.View().Grey, 1)
	check(t, "Step", c.Step(100), true)
	checkList(t, "Order", m.Order(), 1)
}
