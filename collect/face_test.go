package collect_test

import (
	"slices"
	"testing"

	"heirloom/api"
	"heirloom/collect"
)

// A shelf is objects that a collector may look at and that are no Mem's: what it hands out is its own memory, handles come again once they are free, and of what is not there nothing may be asked but its kind.
type shelf struct {
	ones  map[int]*modelOne
	order []int
	roots []api.Value
	told  []told
	black int // how often one became Black
}

func newShelf() *shelf { return &shelf{ones: map[int]*modelOne{}} }

func (s *shelf) Add(t api.Thing) int {
	h := 7
	for s.ones[h] != nil {
		h = (h*5 + 3) % 1024
	}
	t.Slots = slices.Clone(t.Slots)
	s.ones[h] = &modelOne{h: h, thing: t}
	s.order = append(s.order, h)
	return h
}

func (s *shelf) Set(h, slot int, v api.Value) bool {
	o := s.ones[h]
	if o == nil || slot < 0 || slot >= len(o.thing.Slots) {
		return false
	}
	o.thing.Slots[slot] = v
	return true
}

func (s *shelf) SetRoots(l ...api.Value) { s.roots = slices.Clone(l) }

func (s *shelf) Kind(h int) int {
	if s.ones[h] == nil {
		return 0
	}
	return s.ones[h].thing.Kind
}

func (s *shelf) Order() []int          { return s.order }
func (s *shelf) Thing(h int) api.Thing { return s.ones[h].thing }
func (s *shelf) Cells(h int) int       { return 1 + len(s.ones[h].thing.Slots) }
func (s *shelf) Colour(h int) int      { return s.ones[h].colour }
func (s *shelf) Age(h int) int         { return s.ones[h].age }
func (s *shelf) SetAge(h, age int)     { s.ones[h].age = age }
func (s *shelf) SetFin(h, n int)       { s.ones[h].thing.Fin = n }
func (s *shelf) Roots() []api.Value    { return s.roots }
func (s *shelf) SetColour(h, colour int) {
	if s.Kind(h) == api.TStr && colour == api.Grey {
		panic("a string that is to be gone through")
	}
	s.ones[h].colour = colour
	if colour == api.Black {
		s.black++
	}
}

func (s *shelf) Clear(h, slot int, key bool) {
	s.told = append(s.told, told{h, slot, key})
	l := s.ones[h].thing.Slots
	l[slot] = none
	if key {
		l[slot-1].T = api.TDead
	}
}

func (s *shelf) Drop(h int) {
	s.told = append(s.told, told{h, -1, false})
	if s.ones[h] == nil {
		panic("one that is not there is dropped")
	}
	delete(s.ones, h)
	at := slices.Index(s.order, h)
	s.order = slices.Delete(s.order, at, at+1)
}

// Other objects are collected just so: the same is cleared and dropped, in the same order.
func TestP13OtherObjects(t *testing.T) {
	r := newMaker(130)
	for i := range 1500 {
		s := newShelf()
		p := pair{r, t, s, collect.New(s), newModel(api.Graph{})}
		for range 100 {
			if r.Intn(2) == 0 || len(s.order) < i%12 {
				p.check(p.change())
			} else {
				p.check(p.collect())
			}
			if !slices.Equal(s.told, p.m.told) {
				t.Fatalf("told: %v, want %v", s.told, p.m.told)
			}
		}
	}
}

// A view is the caller's own, whatever the objects hand out.
func TestP13_2ViewOfOthers(t *testing.T) {
	s := newShelf()
	h := s.Add(table(none, whole(1)))
	s.SetRoots(tab(h))
	c := collect.New(s)
	v := c.View()
	v.Seen[0].Thing.Slots[1] = none
	v.Seen[0].H = 0
	checkList(t, "the slots", s.Thing(h).Slots, none, whole(1))
	checkList(t, "the order", s.Order(), h)
}

// One that is among Again twice is one weak table, and becomes Black once.
func TestP13_4AgainTwice(t *testing.T) {
	s := newShelf()
	c := collect.New(s)
	c.SetMode(api.ModeGen)
	h, to := s.Add(weak(api.WeakValues, 2, none, none, none)), s.Add(table())
	s.SetRoots(tab(h))
	c.Birth(to)
	for slot := range 2 {
		s.SetColour(h, api.Black)
		s.SetAge(h, api.Old)
		s.Set(h, slot+1, tab(to))
		c.Write(h, tab(to))
	}
	checkList(t, "Again", c.View().Again, h, h)
	s.black = 0
	check(t, "Young", c.Young(), false)
	check(t, "how often it became Black", s.black, 2) // as marking ends, and as it grows older
	checkList(t, "told", s.told, told{h, 1, false}, told{h, 2, false}, told{to, -1, false})
	checkList(t, "the slots", s.Thing(h).Slots, none, none, none)
}

// An Array below 0 is taken as 0: the metatable is no key.
func TestP13_4OddArray(t *testing.T) {
	for _, kind := range []int{api.WeakKeys, api.WeakBoth} {
		s := newShelf()
		meta, other := s.Add(table()), s.Add(table())
		h := s.Add(weak(kind, -1, tab(meta), tab(other), whole(1)))
		s.SetRoots(tab(h))
		c := collect.New(s)
		c.Major()
		checkList(t, "the slots", s.Thing(h).Slots, tab(meta), dead(other), none)
		checkList(t, "Order", s.Order(), meta, h)
	}
}

// What is to be swept is noted when marking ends, not what Order hands out later.
func TestP13_3SweepOfOthers(t *testing.T) {
	s := newShelf()
	c := collect.New(s)
	var l []int
	for range 10 {
		l = append(l, s.Add(table()))
	}
	s.SetRoots(tab(l[4]))
	toPhase(t, c, api.PhaseSweep)
	check(t, "Step", c.Step(10), false)
	checkList(t, "Order", s.Order(), l[4])
	check(t, "Step", c.Step(1), true)
}
