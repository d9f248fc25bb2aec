package collect_test

import (
	"testing"

	"heirloom/api"
	"heirloom/collect"
)

// The chapter's example.
func TestP13Example1(t *testing.T) {
	m, c := openGen(t, graph([]int{1}, table(none, none), table()))
	checkList(t, "behind Major", m.Order(), 1)
	checkLooks(t, "the first one", m, 1, api.Black, api.Old)
	h := m.Add(table())
	c.Birth(h)
	m.Set(1, 1, tab(h))
	c.Write(1, tab(h))
	checkLooks(t, "written into", m, 1, api.Grey, api.Touched1)
	checkList(t, "Again", c.View().Again, 1)
	check(t, "Young", c.Young(), false)
	checkLooks(t, "behind Young, the new one", m, h, c.White(), api.Survival)
	checkLooks(t, "behind Young, the first one", m, 1, api.Black, api.Touched2)
	check(t, "Young", c.Young(), false)
	checkLooks(t, "behind Young twice, the new one", m, h, api.Black, api.Old1)
	checkLooks(t, "behind Young twice, the first one", m, 1, api.Black, api.Old)
	_, c = open(t, graph([]int{1}, table(none, none), table()))
	c.Major()
	if got, want := c.View(), (api.View{White: api.White1, Seen: []api.Seen{{H: 1, Thing: table(none, none), Colour: api.White1}}}); !same(got, want) {
		t.Errorf("Major: %v, want %v", got, want)
	}
}

// In each mode and phase, whatever was marked, or aged, ahead.
func TestP13_4Major(t *testing.T) {
	eachState(t, func(name string, m *collect.Mem, c *collect.Collector) {
		gen := c.View().Mode == api.ModeGen
		for _, colour := range allColours {
			for _, age := range allAges {
				held, gone := m.Add(thing(api.TFunc, none)), m.Add(thing(api.TFunc, none))
				m.Set(1, 0, fun(held))
				m.Set(held, 0, fun(held))
				m.Set(gone, 0, fun(gone))
				for _, h := range []int{1, held, gone} {
					m.SetColour(h, colour)
					m.SetAge(h, age)
				}
				white := c.White()
				c.Major()
				checkList(t, name, m.Order(), 1, held)
				check(t, name+": white", c.White(), 1-white)
				for _, h := range m.Order() {
					if gen {
						checkLooks(t, name, m, h, api.Black, api.Old)
					} else {
						checkLooks(t, name, m, h, 1-white, api.New)
					}
				}
				v := c.View()
				check(t, name+": phase", v.Phase, api.PhasePause)
				check(t, name+": Grey, Again, Pending", len(v.Grey)+len(v.Again)+len(v.Pending), 0)
				m.Drop(held)
			}
		}
	})
}

func TestP13_4Empty(t *testing.T) {
	m, c := open(t, api.Graph{})
	for i := range 4 {
		c.Major()
		check(t, "White", c.White(), (i+1)%2)
		check(t, "objects", len(m.Order()), 0)
	}
}

// Cycles go, and all kinds are gone through.
func TestP13_4Kinds(t *testing.T) {
	for _, kind := range kinds[1:] {
		m, c := open(t, graph([]int{1}, thing(kind, none, leading(kind, 2), str(3)), thing(kind, leading(kind, 1), box(4)), thing(api.TStr), thing(api.TBox, box(4)), thing(kind, leading(kind, 6)), thing(kind, leading(kind, 5), str(7)), thing(api.TStr)))
		c.Major()
		checkList(t, "needed", m.Order(), 1, 2, 3, 4)
		m.SetRoots(str(3))
		c.Major()
		checkList(t, "a string alone", m.Order(), 3)
		m.SetRoots()
		c.Major()
		check(t, "nothing", len(m.Order()), 0)
	}
}

// A Major in the middle of a cycle ends it.
func TestP13_4Middle(t *testing.T) {
	for units := range 12 {
		m, c := open(t, graph([]int{1}, table(tab(2)), weak(api.WeakValues, 1, none, tab(3)), table(), table()))
		c.Step(units)
		m.SetRoots(tab(2))
		c.Major()
		checkList(t, "Order", m.Order(), 2)
		v := c.View()
		check(t, "phase", v.Phase, api.PhasePause)
		check(t, "lists", len(v.Grey)+len(v.Again), 0)
		checkRules(t, "Major", c)
		check(t, "Step", c.Step(4), false)
		check(t, "Step", c.Step(1), true)
	}
}

// weakRow: the table 1 is the root; 2 and 3 are tables, 4 is a closure, 5 a string; what is in the slots, and what they are then.
type weakRow struct {
	name  string
	weak  int
	array int
	ahead []api.Value
	want  []api.Value
	lives []int
}

func dead(h int) api.Value { return api.Value{T: api.TDead, N: int64(h)} }

func weakRows() []weakRow {
	k, v, both := api.WeakKeys, api.WeakValues, api.WeakBoth
	return []weakRow{
		{"keys: the metatable", k, 0, []api.Value{tab(2)}, []api.Value{tab(2)}, []int{1, 2}},
		{"values: the metatable", v, 0, []api.Value{tab(2)}, []api.Value{tab(2)}, []int{1, 2}},
		{"both: the metatable", both, 0, []api.Value{tab(2)}, []api.Value{tab(2)}, []int{1, 2}},
		{"keys: no slots", k, 0, nil, nil, []int{1}},
		{"keys: an array", k, 2, []api.Value{none, tab(2), str(5)}, []api.Value{none, tab(2), str(5)}, []int{1, 2, 5}},
		{"values: an array", v, 2, []api.Value{none, tab(2), str(5)}, []api.Value{none, none, str(5)}, []int{1, 5}},
		{"both: an array", both, 2, []api.Value{none, tab(2), str(5)}, []api.Value{none, none, str(5)}, []int{1, 5}},
		{"keys: a key", k, 0, []api.Value{none, tab(2), tab(3)}, []api.Value{none, dead(2), none}, []int{1}},
		{"values: a key", v, 0, []api.Value{none, tab(2), tab(3)}, []api.Value{none, tab(2), none}, []int{1, 2}},
		{"both: a key", both, 0, []api.Value{none, tab(2), tab(3)}, []api.Value{none, dead(2), none}, []int{1}},
		{"keys: a needed key", k, 0, []api.Value{tab(2), tab(2), tab(3)}, []api.Value{tab(2), tab(2), tab(3)}, []int{1, 2, 3}},
		{"both: a needed key", both, 0, []api.Value{tab(2), tab(2), tab(3)}, []api.Value{tab(2), tab(2), none}, []int{1, 2}},
		{"both: a needed value", both, 0, []api.Value{tab(2), tab(3), tab(2)}, []api.Value{tab(2), dead(3), none}, []int{1, 2}},
		{"keys: a string's", k, 0, []api.Value{none, str(5), tab(3)}, []api.Value{none, str(5), tab(3)}, []int{1, 3, 5}},
		{"values: a string", v, 0, []api.Value{none, tab(3), str(5)}, []api.Value{none, tab(3), str(5)}, []int{1, 3, 5}},
		{"both: strings", both, 0, []api.Value{none, str(5), str(5)}, []api.Value{none, str(5), str(5)}, []int{1, 5}},
		{"both: a string's, to a table", both, 0, []api.Value{none, str(5), tab(2)}, []api.Value{none, str(5), none}, []int{1, 5}},
		{"both: a table's, to a string", both, 0, []api.Value{none, tab(2), str(5)}, []api.Value{none, dead(2), none}, []int{1, 5}},
		{"keys: a number's", k, 0, []api.Value{none, whole(2), tab(3)}, []api.Value{none, whole(2), tab(3)}, []int{1, 3}},
		{"keys: to a number", k, 0, []api.Value{none, tab(3), whole(2)}, []api.Value{none, dead(3), none}, []int{1}},
		{"values: to a number", v, 0, []api.Value{none, tab(3), whole(2)}, []api.Value{none, tab(3), whole(2)}, []int{1, 3}},
		{"keys: to itself", k, 0, []api.Value{none, tab(2), tab(2)}, []api.Value{none, dead(2), none}, []int{1}},
		{"keys: of the table itself", k, 0, []api.Value{none, tab(1), tab(2)}, []api.Value{none, tab(1), tab(2)}, []int{1, 2}},
		{"keys: one behind the other", k, 0, []api.Value{tab(2), tab(3), fun(4), tab(2), tab(3)}, []api.Value{tab(2), tab(3), fun(4), tab(2), tab(3)}, []int{1, 2, 3, 4}},
		{"keys: in a circle", k, 0, []api.Value{none, tab(2), tab(3), tab(3), tab(2)}, []api.Value{none, dead(2), none, dead(3), none}, []int{1}},
		{"keys: an incomplete pair", k, 0, []api.Value{none, tab(2), tab(3), fun(4)}, []api.Value{none, dead(2), none, fun(4)}, []int{1, 4}},
		{"values: an incomplete pair", v, 0, []api.Value{none, tab(2), tab(3), fun(4)}, []api.Value{none, tab(2), none, none}, []int{1, 2}},
		{"both: an incomplete pair", both, 0, []api.Value{none, fun(4)}, []api.Value{none, none}, []int{1}},
		{"keys: an incomplete pair behind an array", k, 1, []api.Value{none, none, fun(4)}, []api.Value{none, none, fun(4)}, []int{1, 4}},
	}
}

func TestP13_4Weak(t *testing.T) {
	for _, r := range weakRows() {
		for way, do := range []func(c *collect.Collector){
			(*collect.Collector).Major,
			func(c *collect.Collector) { c.Step(100) },
			func(c *collect.Collector) { c.SetMode(api.ModeGen) },
		} {
			m, c := open(t, graph([]int{1}, weak(r.weak, r.array, r.ahead...), table(), table(), thing(api.TFunc), thing(api.TStr)))
			do(c)
			name := r.name + ", way " + string(rune('0'+way))
			checkSlots(t, name, m, 1, r.want...)
			checkList(t, name, m.Order(), r.lives...)
			checkRules(t, name, c)
		}
	}
}

// What leads to nothing is not held weakly: it is not cleared, nor does its pair wait.
func TestP13_4WeakNowhere(t *testing.T) {
	for _, kind := range []int{api.WeakKeys, api.WeakValues, api.WeakBoth} {
		for _, odd := range []api.Value{box(2), tab(9), tab(0), tab(3), dead(2), {T: api.TNative, N: 2}} {
			m, c := open(t, graph([]int{1}, weak(kind, 0, none, none, none, none, none), table(), table()))
			m.Drop(3)
			m.Set(1, 1, odd)
			m.Set(1, 2, tab(2))
			m.Set(1, 3, whole(1))
			m.Set(1, 4, odd)
			c.Major()
			value, lives := none, []int{1}
			if kind == api.WeakKeys {
				value, lives = tab(2), []int{1, 2}
			}
			checkSlots(t, "nowhere", m, 1, none, odd, value, whole(1), odd)
			checkList(t, "nowhere", m.Order(), lives...)
		}
	}
}

// Pairs that wait for one another are found in any order, over several tables, those that pairs alone lead to among them.
func TestP13_4WeakChains(t *testing.T) {
	k := api.WeakKeys
	m, c := open(t, graph([]int{1, 2},
		weak(k, 0, none, tab(5), tab(6), tab(4), tab(5), tab(3), tab(4)),
		table(tab(3)), table(), table(), table(), weak(k, 0, none, tab(8), tab(9), tab(7), tab(8)), table(), table(), table()))
	m.Set(2, 0, tab(3))
	c.Major()
	checkList(t, "the inner one's key is not needed", m.Order(), 1, 2, 3, 4, 5, 6)
	checkSlots(t, "the inner one", m, 6, none, dead(8), none, dead(7), none)
	m, c = open(t, graph([]int{1}, weak(k, 0, tab(2), tab(2), tab(3)), table(), weak(k, 0, tab(5), tab(2), tab(4), tab(4), tab(6)), table(), table(), table(), table()))
	c.Major()
	checkList(t, "a weak one by a pair", m.Order(), 1, 2, 3, 4, 5, 6)
}

// A long chain the wrong way round takes a round for each pair.
func TestP13_4WeakLongChain(t *testing.T) {
	const n = 2000
	g := graph(nil, weak(api.WeakKeys, 0, tab(n)))
	for h := 2; h <= n; h++ {
		g.Things = append(g.Things, table())
		g.Things[0].Slots = append(g.Things[0].Slots, tab(h), tab(h-1))
	}
	g.Things = append(g.Things, table())
	g.Things[0].Slots = append(g.Things[0].Slots, tab(n+1), tab(n+1))
	g.Roots = []api.Value{tab(1)}
	m, c := open(t, g)
	c.Major()
	check(t, "objects", len(m.Order()), n)
	slots := m.Thing(1).Slots
	checkList(t, "the last pair", slots[len(slots)-2:], dead(n+1), none)
}

// Pending are what is not needed, what was marked last first; their Fin is 0, and what they lead to lives.
func TestP13_4Finalisers(t *testing.T) {
	m, c := open(t, graph([]int{1}, marked(9), marked(2, tab(5)), marked(7), marked(4), table(tab(6)), marked(1), table()))
	c.Major()
	checkList(t, "Pending", c.View().Pending, 3, 4, 2, 6)
	checkList(t, "Order", m.Order(), 1, 2, 3, 4, 5, 6)
	for h, fin := range []int{9, 0, 0, 0, 0, 0} {
		check(t, "Fin", m.Thing(h+1).Fin, fin)
	}
	m.SetRoots()
	c.Major()
	checkList(t, "behind another one", takeAll(c), 3, 4, 2, 6, 1)
	c.Major()
	check(t, "objects behind the last one", len(m.Order()), 0)
	check(t, "Pending", len(takeAll(c)), 0)
}

// Of two with one Fin the greater handle is first; objects of any kind may be marked by SetFin.
func TestP13_4SameFin(t *testing.T) {
	var g api.Graph
	for _, kind := range kinds {
		g.Things = append(g.Things, thing(kind), thing(kind))
	}
	m, c := open(t, g)
	for _, h := range m.Order() {
		m.SetFin(h, 5)
	}
	m.SetFin(4, 6)
	m.SetFin(9, 4)
	m.SetFin(1, 0)
	m.SetFin(2, -5)
	c.Major()
	checkList(t, "Pending", c.View().Pending, 4, 12, 11, 10, 8, 7, 6, 5, 3, 9)
	checkList(t, "Order", m.Order(), 3, 4, 5, 6, 7, 8, 9, 10, 11, 12)
}

// Ahead of finalisers weak values lose what is pending; weak keys keep it, till it is gone.
func TestP13_4WeakFinalisers(t *testing.T) {
	k, v, both := api.WeakKeys, api.WeakValues, api.WeakBoth
	g := graph([]int{1, 2, 3},
		weak(k, 0, none, tab(4), tab(5)),
		weak(v, 1, none, tab(4), whole(2), tab(5), whole(1), tab(4)),
		weak(both, 0, none, tab(4), whole(1), whole(2), tab(4), tab(5), whole(3)),
		marked(1), table())
	m, c := open(t, g)
	c.Major()
	checkSlots(t, "keys", m, 1, none, tab(4), tab(5))
	checkSlots(t, "values", m, 2, none, none, whole(2), none, whole(1), none)
	checkSlots(t, "both", m, 3, none, tab(4), whole(1), whole(2), none, tab(5), whole(3))
	checkList(t, "Pending", takeAll(c), 4)
	c.Major()
	checkSlots(t, "keys, once it was taken", m, 1, none, dead(4), none)
	checkSlots(t, "both, once it was taken", m, 3, none, dead(4), none, whole(2), none, dead(5), none)
	checkList(t, "Order", m.Order(), 1, 2, 3)
}

// A weak table that lives by what is pending alone keeps in its values what is pending.
func TestP13_4WeakOfPending(t *testing.T) {
	m, c := open(t, graph(nil, marked(1, tab(2)), weak(api.WeakValues, 3, none, tab(1), tab(3), tab(4)), marked(2), table(), table()))
	c.Major()
	checkList(t, "Pending", c.View().Pending, 3, 1)
	checkSlots(t, "values", m, 2, none, tab(1), tab(3), none)
	checkList(t, "Order", m.Order(), 1, 2, 3)
}

// What was taken may be marked again, and is pending again then.
func TestP13_4MarkedAgain(t *testing.T) {
	m, c := open(t, graph(nil, marked(1)))
	for i := range 5 {
		c.Major()
		c.Major()
		checkList(t, "Pending", c.View().Pending, 1)
		check(t, "Fin", m.Thing(1).Fin, 0)
		m.SetFin(1, 7)
		c.Major()
		check(t, "Fin of one that is pending", m.Thing(1).Fin, 7)
		checkList(t, "taken", takeAll(c), 1)
		if i%2 == 0 {
			m.SetFin(1, 0)
			m.SetRoots(tab(1))
			c.Major()
			m.SetRoots()
			m.SetFin(1, 3)
		}
	}
	c.Major()
	takeAll(c)
	c.Major()
	check(t, "objects", len(m.Order()), 0)
}
