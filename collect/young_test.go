package collect_test

import (
	"testing"

	"heirloom/ages"
	"heirloom/api"
	"heirloom/collect"
)

// born makes an object that the collector is told of.
func born(m *collect.Mem, c *collect.Collector, t api.Thing) int {
	h := m.Add(t)
	c.Birth(h)
	return h
}

// put writes a value into a slot, and tells the collector.
func put(m *collect.Mem, c *collect.Collector, h, slot int, v api.Value) {
	m.Set(h, slot, v)
	c.Write(h, v)
}

// wide makes an object with so many slots that what a test makes beside it is no reason to collect everything.
func wide(kind int) api.Thing { return thing(kind, make([]api.Value, 60)...) }

func TestP13_5Inc(t *testing.T) {
	eachState(t, func(name string, m *collect.Mem, c *collect.Collector) {
		if c.View().Mode == api.ModeGen {
			return
		}
		for range 100 {
			m.Add(table(none, none))
		}
		ahead := c.View()
		check(t, name, c.Young(), false)
		if got := c.View(); !same(got, ahead) {
			t.Errorf("%s: %v, want %v", name, got, ahead)
		}
	})
}

// What lives grows older by each young collection, and so do its colours.
func TestP13_5Ages(t *testing.T) {
	m, c := openGen(t, graph(nil, table(), table(), table(), table()))
	for _, kind := range kinds {
		h := born(m, c, thing(kind))
		m.SetRoots(leading(kind, h))
		for _, age := range []int{api.Survival, api.Old1, api.Old, api.Old} {
			check(t, "Young", c.Young(), false)
			colour := api.Black
			if age == api.Survival {
				colour = c.White()
			}
			checkLooks(t, "grown", m, h, colour, age)
			checkRules(t, "grown", c)
		}
		m.SetRoots()
		check(t, "Young", c.Young(), false)
		checkLooks(t, "old, and not needed", m, h, api.Black, api.Old)
		c.SetMode(api.ModeInc)
		c.Step(100)
		c.SetMode(api.ModeGen)
	}
}

// Each age and colour, as words have it: what is white and not needed goes, all else grows.
func TestP13_5Looks(t *testing.T) {
	for _, kind := range kinds {
		for _, colour := range allColours {
			for _, age := range allAges {
				m, c := openGen(t, api.Graph{})
				h := born(m, c, thing(kind))
				m.SetColour(h, colour)
				m.SetAge(h, age)
				white := c.White()
				check(t, "Young", c.Young(), false)
				lives := colour != white || kind != api.TStr && (age == api.Old1 || age == api.Touched2)
				if !lives {
					check(t, "objects", len(m.Order()), 0)
					continue
				}
				want := api.Black
				if ages.Next(age) == api.Survival {
					want = c.White()
				}
				checkLooks(t, "grown", m, h, want, ages.Next(age))
				check(t, "White", c.White(), 1-white)
			}
		}
	}
}

// Old ones hold what they lead to, whether they are needed or not; young ones that nobody holds go.
func TestP13_5Held(t *testing.T) {
	for _, kind := range kinds[1:] {
		m, c := openGen(t, graph([]int{1, 2}, wide(kind), thing(api.TBox, none)))
		m.SetRoots()
		held := born(m, c, thing(kind, none))
		gone := born(m, c, thing(kind, leading(kind, held)))
		put(m, c, 1, 1, leading(kind, held))
		inner := born(m, c, table())
		put(m, c, held, 0, tab(inner))
		other := born(m, c, thing(api.TStr))
		put(m, c, 1, 0, str(other))
		checkRules(t, "written", c)
		check(t, "Young", c.Young(), false)
		checkList(t, "Order", m.Order(), 1, 2, held, inner, other)
		check(t, "gone", m.Kind(gone), 0)
		checkRules(t, "Young", c)
		put(m, c, 1, 1, none)
		put(m, c, 1, 0, none)
		check(t, "Young", c.Young(), false)
		check(t, "Young", c.Young(), false)
		checkRules(t, "Young", c)
	}
}

// What was written into a table or a thread is asked again behind one young collection, not behind two.
func TestP13_5Touched(t *testing.T) {
	for _, kind := range []int{api.TTable, api.TThread} {
		m, c := openGen(t, graph([]int{1}, wide(kind), table(), table()))
		h := born(m, c, table(none))
		put(m, c, 1, 0, tab(h))
		checkLooks(t, "written into", m, 1, api.Grey, api.Touched1)
		c.Young()
		checkLooks(t, "behind one", m, 1, api.Black, api.Touched2)
		checkLooks(t, "the young one behind one", m, h, c.White(), api.Survival)
		check(t, "Again", len(c.View().Again), 0)
		next := born(m, c, table())
		put(m, c, h, 0, tab(next))
		checkLooks(t, "a young one is written into", m, h, c.White(), api.Survival)
		c.Young()
		checkLooks(t, "behind two", m, 1, api.Black, api.Old)
		checkLooks(t, "the young one behind two", m, h, api.Black, api.Old1)
		checkLooks(t, "the youngest one", m, next, c.White(), api.Survival)
		checkRules(t, "behind two", c)
		c.Young()
		checkLooks(t, "behind three", m, h, api.Black, api.Old)
		checkLooks(t, "the youngest one behind two", m, next, api.Black, api.Old1)
	}
}

// What was written into others is old at once, and holds what it leads to.
func TestP13_5Forward(t *testing.T) {
	for _, kind := range []int{api.TFunc, api.TBox, api.TProto} {
		m, c := openGen(t, graph([]int{1}, wide(kind), table(), table()))
		h := born(m, c, table(none))
		inner := born(m, c, thing(api.TStr))
		put(m, c, h, 0, str(inner))
		put(m, c, 1, 0, tab(h))
		checkLooks(t, "written", m, h, api.Grey, api.Old0)
		checkList(t, "Grey", c.View().Grey, h)
		text := born(m, c, thing(api.TStr))
		put(m, c, 1, 0, str(text))
		checkLooks(t, "a string that was written", m, text, api.Black, api.Old0)
		c.Young()
		checkLooks(t, "behind one", m, h, api.Black, api.Old1)
		checkLooks(t, "what it leads to", m, inner, c.White(), api.Survival)
		checkLooks(t, "the string", m, text, api.Black, api.Old1)
		checkRules(t, "behind one", c)
		c.Young()
		checkLooks(t, "behind two", m, h, api.Black, api.Old)
		checkLooks(t, "what it leads to, behind two", m, inner, api.Black, api.Old1)
		checkLooks(t, "the string, behind two", m, text, api.Black, api.Old)
	}
}

// A weak table that is old: what is written into it is held weakly, but for a metatable.
func TestP13_5Weak(t *testing.T) {
	for _, kind := range []int{api.WeakKeys, api.WeakValues, api.WeakBoth} {
		m, c := openGen(t, graph([]int{1, 2}, weak(kind, 0, none, none, none, none, none), table(none), table(), table()))
		meta, key, value, text := born(m, c, table()), born(m, c, table()), born(m, c, table()), born(m, c, thing(api.TStr))
		put(m, c, 1, 0, tab(meta))
		put(m, c, 1, 1, tab(key))
		put(m, c, 1, 2, tab(value))
		put(m, c, 1, 3, str(text))
		put(m, c, 1, 4, tab(value))
		checkList(t, "Again", c.View().Again, 1)
		check(t, "Young", c.Young(), false)
		checkRules(t, "Young", c)
		checkLooks(t, "the weak one", m, 1, api.Black, api.Touched2)
		checkLooks(t, "its metatable", m, meta, c.White(), api.Survival)
		checkLooks(t, "a string", m, text, c.White(), api.Survival)
		switch kind {
		case api.WeakKeys:
			checkSlots(t, "keys", m, 1, tab(meta), dead(key), none, str(text), tab(value))
		case api.WeakValues:
			checkSlots(t, "values", m, 1, tab(meta), tab(key), none, str(text), none)
		case api.WeakBoth:
			checkSlots(t, "both", m, 1, tab(meta), dead(key), none, str(text), none)
		}
	}
}

// A young one with a Fin that nobody holds is pending, and lives; an old one is not looked at.
func TestP13_5Finalisers(t *testing.T) {
	m, c := openGen(t, graph([]int{1, 2}, wide(api.TTable), table(), table(), table(), table()))
	m.SetFin(1, 1)
	m.SetRoots(tab(2))
	h := born(m, c, marked(3, none))
	inner := born(m, c, table())
	put(m, c, h, 0, tab(inner))
	last := born(m, c, marked(4))
	check(t, "Young", c.Young(), false)
	checkList(t, "Pending", c.View().Pending, last, h)
	checkList(t, "Order", m.Order(), 1, 2, h, inner, last)
	checkRules(t, "Young", c)
	check(t, "Young", c.Young(), false)
	checkList(t, "Pending", takeAll(c), last, h)
	checkLooks(t, "pending", m, h, api.Black, api.Old1)
	c.Major()
	checkList(t, "behind Major", m.Order(), 1, 2)
	checkList(t, "Pending", takeAll(c), 1)
}

// At twice the base all is young still; above it, all is collected.
func TestP13_5Base(t *testing.T) {
	for more := range 4 {
		m, c := openGen(t, graph([]int{1}, table(none, none), table(), table()))
		check(t, "the base", c.Live(), 3)
		h := born(m, c, table(make([]api.Value, 1+more)...))
		m.SetRoots(tab(h))
		check(t, "Live", c.Live(), 3+2+more)
		if more < 2 {
			check(t, "Young", c.Young(), false)
			checkLooks(t, "the old one", m, 1, api.Black, api.Old)
			checkLooks(t, "the young one", m, h, c.White(), api.Survival)
			continue
		}
		check(t, "Young above twice the base", c.Young(), true)
		checkList(t, "Order", m.Order(), h)
		checkLooks(t, "the young one", m, h, api.Black, api.Old)
		check(t, "the base then", c.Live(), 2+more)
		for range 2 + more - 1 {
			born(m, c, table())
		}
		check(t, "Young below the new base's double", c.Young(), false)
		for range 2 + more {
			born(m, c, table())
		}
		check(t, "Young at the new base's double", c.Young(), false)
		for range 2 + more + 1 {
			born(m, c, table())
		}
		check(t, "Young above the new base's double", c.Young(), true)
	}
}

// A base of 0 is none, whatever Live is.
func TestP13_5NoBase(t *testing.T) {
	m, c := openGen(t, api.Graph{})
	for range 50 {
		h := born(m, c, table(none, none))
		m.SetRoots(append(m.Roots(), tab(h))...)
		check(t, "Young", c.Young(), false)
	}
	check(t, "objects", len(m.Order()), 50)
	check(t, "the first one's age", m.Age(1), api.Old)
	check(t, "the last one's age", m.Age(50), api.Survival)
	c.Major()
	for range 50 {
		born(m, c, table(none, none))
	}
	check(t, "Young at the double", c.Young(), false)
	for range 51 {
		born(m, c, table(none, none))
	}
	check(t, "Young above it", c.Young(), true)
}

// What Major makes the base in ModeInc holds till the next one; SetMode makes it anew.
func TestP13_5BaseOfMode(t *testing.T) {
	m, c := open(t, graph([]int{1}, table()))
	c.Major()
	for range 9 {
		h := born(m, c, table())
		m.SetRoots(append(m.Roots(), tab(h))...)
	}
	c.SetMode(api.ModeGen)
	check(t, "Young", c.Young(), false)
	for range 10 {
		born(m, c, table())
	}
	check(t, "Young at the double", c.Young(), false)
	for range 11 {
		born(m, c, table())
	}
	check(t, "Young above it", c.Young(), true)
}
