package collect_test

import (
	"math"
	"slices"
	"testing"

	"heirloom/ages"
	"heirloom/api"
	"heirloom/collect"
)

func TestP13_2New(t *testing.T) {
	if collect.New(nil) != nil {
		t.Error("New of nil: not nil")
	}
	_, c := open(t, graph(nil))
	if got := c.View(); !same(got, api.View{}) {
		t.Errorf("View of a new one: %v", got)
	}
	check(t, "White", c.White(), api.White0)
	check(t, "Live", c.Live(), 0)
}

// New changes nothing of its objects.
func TestP13_2NewOfUsed(t *testing.T) {
	m := collect.NewMem(graph([]int{1}, table(tab(2)), marked(4)))
	m.SetColour(1, api.Black)
	m.SetAge(2, api.Old1)
	c := collect.New(m)
	want := api.View{Seen: []api.Seen{{H: 1, Thing: table(tab(2)), Colour: api.Black}, {H: 2, Thing: marked(4), Age: api.Old1}}}
	if got := c.View(); !same(got, want) {
		t.Errorf("View: %v, want %v", got, want)
	}
}

func TestP13_2View(t *testing.T) {
	m, c := open(t, graph([]int{1}, table(box(2), tab(3)), thing(api.TBox, str(4)), table(none), thing(api.TStr), marked(5), marked(6)))
	c.Major()
	c.Step(1)
	m.Drop(3)
	want := api.View{Phase: api.PhaseMark, White: api.White1, Grey: []int{1, 6, 5}, Pending: []int{6, 5}, Seen: []api.Seen{
		{H: 1, Thing: table(box(2), tab(3)), Colour: api.Grey},
		{H: 2, Thing: thing(api.TBox, str(4)), Colour: api.White1},
		{H: 4, Thing: thing(api.TStr), Colour: api.White1},
		{H: 5, Thing: table(), Colour: api.Grey},
		{H: 6, Thing: table(), Colour: api.Grey}}}
	if got := c.View(); !same(got, want) {
		t.Errorf("View: %v, want %v", got, want)
	}
	check(t, "White", c.White(), api.White1)
	c.Step(3)
	m.Set(1, 1, box(2))
	m.SetColour(2, api.White1)
	c.Write(1, box(2))
	checkList(t, "Again", c.View().Again, 1)
}

// What a view hands out is its own.
func TestP13_2ViewOwnMemory(t *testing.T) {
	m, c := openGen(t, graph([]int{1, 2}, table(none, whole(1)), thing(api.TBox, none), marked(2), marked(3)))
	for _, h := range []int{1, 2} {
		n := m.Add(table())
		c.Birth(n)
		m.Set(h, 0, tab(n))
		c.Write(h, tab(n))
	}
	v, ahead := c.View(), copyOfView(c.View())
	check(t, "lists that are full", len(v.Grey)*len(v.Again)*len(v.Pending), 2)
	for _, l := range [][]int{v.Grey, v.Again, v.Pending} {
		clear(l)
	}
	for _, s := range v.Seen {
		clear(s.Thing.Slots)
	}
	clear(v.Seen)
	if got := c.View(); !same(got, ahead) {
		t.Errorf("behind a change of what was handed out: %v, want %v", got, ahead)
	}
}

func TestP13_2Live(t *testing.T) {
	m, c := open(t, graph([]int{1}, table(none, none, none), thing(api.TStr), thing(api.TThread, tab(1))))
	check(t, "Live", c.Live(), 4+1+2)
	m.Add(table(none))
	check(t, "with one more", c.Live(), 4+1+2+2)
	m.Drop(3)
	check(t, "with one less", c.Live(), 4+1+2)
	c.Major()
	check(t, "behind Major", c.Live(), 4)
}

// In each mode and phase, with either white.
func TestP13_2Birth(t *testing.T) {
	eachState(t, func(name string, m *collect.Mem, c *collect.Collector) {
		for _, kind := range kinds {
			for _, colour := range allColours {
				for _, age := range allAges {
					h := m.Add(thing(kind))
					m.SetColour(h, colour)
					m.SetAge(h, age)
					ahead := c.View()
					c.Birth(h)
					checkLooks(t, name, m, h, c.White(), api.New)
					last := &ahead.Seen[len(ahead.Seen)-1]
					last.Colour, last.Age = c.White(), api.New
					if got := c.View(); !same(got, ahead) {
						t.Fatalf("%s: %v, want %v", name, got, ahead)
					}
					m.Drop(h)
				}
			}
		}
		ahead := c.View()
		for _, h := range noHandles {
			c.Birth(h)
		}
		if got := c.View(); !same(got, ahead) {
			t.Errorf("%s: Birth of none: %v, want %v", name, got, ahead)
		}
	})
}

// eachState does something with a collector in each mode and phase, with either white as the current one. It has an object 1 that a root leads to, and its handles 2 to 4 were once.
func eachState(t *testing.T, do func(name string, m *collect.Mem, c *collect.Collector)) {
	t.Helper()
	for turns := range 4 {
		for _, phase := range []int{api.PhasePause, api.PhaseMark, api.PhaseSweep} {
			m, c := open(t, graph([]int{1}, thing(api.TBox, none), table(), table(), table()))
			for range 1 + turns%2 {
				c.Major()
			}
			name := "ModeInc"
			switch {
			case turns < 2:
				toPhase(t, c, phase)
			case phase == api.PhasePause:
				c.SetMode(api.ModeGen)
				name = "ModeGen"
			default:
				continue
			}
			do(name+", phase "+string(rune('0'+phase))+", white "+string(rune('0'+c.White())), m, c)
		}
	}
}

// A row of Write: one object is written into another.
type written struct {
	kind, colour, age       int // of what is written into
	toKind, toColour, toAge int
}

func eachWritten(do func(w written)) {
	for _, kind := range kinds {
		for _, colour := range allColours {
			for _, toKind := range kinds {
				for _, toColour := range allColours {
					for _, age := range allAges {
						for _, toAge := range allAges {
							do(written{kind, colour, age, toKind, toColour, toAge})
						}
					}
				}
			}
		}
	}
}

// Write of each kind, colour and age into each, in each state.
func TestP13_2Write(t *testing.T) {
	eachState(t, func(name string, m *collect.Mem, c *collect.Collector) {
		ones, tos := map[int]int{}, map[int]int{}
		for _, kind := range kinds {
			ones[kind], tos[kind] = m.Add(thing(kind)), m.Add(thing(kind))
		}
		v := c.View()
		grey, again := v.Grey, v.Again
		acts := v.Phase == api.PhaseMark || v.Mode == api.ModeGen
		eachWritten(func(w written) {
			h, to := ones[w.kind], tos[w.toKind]
			set := func(h, colour, age int) { m.SetColour(h, colour); m.SetAge(h, age) }
			set(h, w.colour, w.age)
			set(to, w.toColour, w.toAge)
			c.Write(h, leading(w.toKind, to))
			want := w
			if acts && w.colour == api.Black && w.toColour == c.White() {
				switch {
				case w.kind == api.TTable || w.kind == api.TThread:
					want.colour, want.age = api.Grey, ages.Back(w.age)
					again = append(again, h)
				case w.toKind == api.TStr:
					want.toColour, want.toAge = api.Black, ages.Forward(w.age, w.toAge)
				default:
					want.toColour, want.toAge = api.Grey, ages.Forward(w.age, w.toAge)
					grey = append(grey, to)
				}
			}
			got := written{w.kind, m.Colour(h), m.Age(h), w.toKind, m.Colour(to), m.Age(to)}
			if got != want {
				t.Fatalf("%s: %v: %v, want %v", name, w, got, want)
			}
		})
		v = c.View()
		checkList(t, name+": Grey", v.Grey, grey...)
		checkList(t, name+": Again", v.Again, again...)
	})
}

// What does not lead to an object, or into none, is nothing.
func TestP13_2WriteNowhere(t *testing.T) {
	eachState(t, func(name string, m *collect.Mem, c *collect.Collector) {
		for _, kind := range kinds {
			h, to := m.Add(thing(kind)), m.Add(table())
			m.SetColour(h, api.Black)
			m.SetAge(h, api.Old)
			c.Birth(to)
			ahead := c.View()
			for _, v := range []api.Value{none, whole(to), {T: api.TBool, N: int64(to)}, {T: api.TFloat, N: int64(to)}, {T: api.TNative, N: int64(to)}, {T: api.TDead, N: int64(to)},
				{T: -1, N: int64(to)}, {T: 12, N: int64(to)}, {T: math.MaxInt, N: int64(to)}, str(to), fun(to), box(to), leading(api.TThread, to), leading(api.TProto, to),
				tab(2), tab(3), tab(4), tab(to + 1), tab(0), tab(-to), {T: api.TTable, N: math.MaxInt64}, {T: api.TTable, N: math.MinInt64}, {T: api.TTable, N: int64(to) + 1<<32}} {
				c.Write(h, v)
			}
			for _, h := range append([]int{2, 3, 4, to + 1}, noHandles...) {
				c.Write(h, tab(to))
			}
			if got := c.View(); !same(got, ahead) {
				t.Fatalf("%s: %v, want %v", name, got, ahead)
			}
			m.Drop(h)
			m.Drop(to)
		}
	})
}

// An object that is written into twice is noted once: it is Black no more.
func TestP13_2WriteTwice(t *testing.T) {
	m, c := openGen(t, graph([]int{1, 2}, table(none, none), thing(api.TBox, none)))
	for range 3 {
		h := m.Add(table())
		c.Birth(h)
		for _, owner := range []int{1, 2} {
			m.Set(owner, 0, tab(h))
			c.Write(owner, tab(h))
			c.Write(owner, tab(h))
		}
	}
	v := c.View()
	checkList(t, "Again", v.Again, 1)
	checkList(t, "Grey", v.Grey, 3, 4, 5)
	checkLooks(t, "the table", m, 1, api.Grey, api.Touched1)
	checkLooks(t, "the box", m, 2, api.Black, api.Old)
	for h := 3; h <= 5; h++ {
		checkLooks(t, "what was written", m, h, api.Grey, api.Old0)
	}
	if l := ages.Audit(v); len(l) > 0 {
		t.Errorf("%v break the rules", l)
	}
}

// Of nil, and of one that New did not make, nothing is told, and nothing is done.
func TestP13Nil(t *testing.T) {
	for _, c := range []*collect.Collector{nil, {}} {
		for _, h := range append([]int{1, 2}, noHandles...) {
			c.Birth(h)
			c.Write(h, tab(h))
			check(t, "Step", c.Step(h), false)
			c.SetMode(h)
		}
		for _, mode := range append([]int{api.ModeGen, api.ModeInc}, noModes...) {
			c.SetMode(mode)
			c.Major()
			check(t, "Young", c.Young(), false)
		}
		h, is := c.Take()
		check(t, "Take", h, 0)
		check(t, "Take", is, false)
		check(t, "White", c.White(), 0)
		check(t, "Live", c.Live(), 0)
		if got := c.View(); !same(got, api.View{}) {
			t.Errorf("View: %v", got)
		}
	}
}

// A Mem that is nil has no objects; a collector over it has nothing to do.
func TestP13NilMem(t *testing.T) {
	var m *collect.Mem
	c := collect.New(m)
	for _, h := range append([]int{1}, noHandles...) {
		c.Birth(h)
		c.Write(h, tab(h))
	}
	check(t, "Step(2)", c.Step(2), false)
	check(t, "Step(1)", c.Step(1), true)
	c.SetMode(api.ModeGen)
	check(t, "Young", c.Young(), false)
	c.Major()
	check(t, "White", c.White(), api.White0)
	if got := c.View(); !same(got, api.View{Mode: api.ModeGen}) {
		t.Errorf("View: %v", got)
	}
	if l := slices.Concat(m.Order(), takeAll(c)); len(l) > 0 {
		t.Errorf("there is %v", l)
	}
}
