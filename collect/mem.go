package collect

import (
	"maps"
	"slices"

	"heirloom/api"
	"heirloom/reach"
)

// Mem is objects that are a graph's.
type Mem struct {
	things   map[int]*kept
	roots    []api.Value
	greatest int // of all handles that ever were: none is given twice
}

// kept is an object as a Mem has it; a new one is of White0 and New, which are 0.
type kept struct {
	thing       api.Thing
	colour, age int
}

// NewMem makes one of a graph.
func NewMem(g api.Graph) *Mem {
	if !reach.Right(g) || slices.ContainsFunc(g.Things, textWithSlots) {
		return nil
	}
	m := &Mem{things: make(map[int]*kept, len(g.Things))}
	for _, t := range g.Things {
		m.put(t)
	}
	m.SetRoots(g.Roots...)
	return m
}

// textWithSlots tells whether an object is a string that leads somewhere: marking would not go through it.
func textWithSlots(t api.Thing) bool { return t.Kind == api.TStr && len(t.Slots) > 0 }

// rightAlone tells whether an object is right, whatever its slots lead to.
func rightAlone(t api.Thing) bool {
	if textWithSlots(t) {
		return false
	}
	t.Slots = make([]api.Value, len(t.Slots))
	return reach.Right(api.Graph{Things: []api.Thing{t}})
}

func (m *Mem) put(t api.Thing) int {
	t.Slots = slices.Clone(t.Slots)
	m.greatest++
	m.things[m.greatest] = &kept{thing: t, colour: api.White0, age: api.New}
	return m.greatest
}

// made tells whether m is NewMem's.
func (m *Mem) made() bool { return m != nil && m.things != nil }

// find answers an object; nil, if it is not there.
func (m *Mem) find(h int) *kept {
	if !m.made() {
		return nil
	}
	return m.things[h]
}

// slot answers where a value of an object is; nil, if there is no such slot.
func (k *kept) slot(i int) *api.Value {
	if k == nil || i < 0 || i >= len(k.thing.Slots) {
		return nil
	}
	return &k.thing.Slots[i]
}

// change does something with an object, if it is there.
func (m *Mem) change(h int, do func(k *kept)) {
	if k := m.find(h); k != nil {
		do(k)
	}
}

// Add makes one more object.
func (m *Mem) Add(t api.Thing) int {
	if !m.made() || !rightAlone(t) {
		return 0
	}
	return m.put(t)
}

// Set puts a value into a slot.
func (m *Mem) Set(h, slot int, v api.Value) bool {
	at := m.find(h).slot(slot)
	if at == nil {
		return false
	}
	*at = v
	return true
}

// SetRoots sets the roots.
func (m *Mem) SetRoots(l ...api.Value) {
	if m.made() {
		m.roots = slices.Clone(l)
	}
}

// Order tells which objects are there.
func (m *Mem) Order() []int {
	if !m.made() {
		return nil
	}
	return slices.Sorted(maps.Keys(m.things))
}

// Thing is an object.
func (m *Mem) Thing(h int) api.Thing {
	var t api.Thing
	m.change(h, func(k *kept) {
		t = k.thing
		t.Slots = slices.Clone(t.Slots)
	})
	return t
}

// Kind is an object's; 0: it is not there.
func (m *Mem) Kind(h int) int {
	k := m.find(h)
	if k == nil {
		return 0
	}
	return k.thing.Kind
}

// Cells is how much room one takes.
func (m *Mem) Cells(h int) int {
	k := m.find(h)
	if k == nil {
		return 0
	}
	return 1 + len(k.thing.Slots)
}

// Colour is an object's.
func (m *Mem) Colour(h int) int {
	k := m.find(h)
	if k == nil {
		return 0
	}
	return k.colour
}

// Age is an object's.
func (m *Mem) Age(h int) int {
	k := m.find(h)
	if k == nil {
		return 0
	}
	return k.age
}

// SetColour sets it.
func (m *Mem) SetColour(h, colour int) { m.change(h, func(k *kept) { k.colour = colour }) }

// SetAge sets it.
func (m *Mem) SetAge(h, age int) { m.change(h, func(k *kept) { k.age = age }) }

// SetFin sets an object's place among those that are marked.
func (m *Mem) SetFin(h, n int) { m.change(h, func(k *kept) { k.thing.Fin = n }) }

// Clear clears an entry.
func (m *Mem) Clear(h, slot int, key bool) {
	k := m.find(h)
	value, ahead := k.slot(slot), k.slot(slot-1)
	if value == nil || key && ahead == nil {
		return
	}
	*value = api.Value{}
	if key {
		// Its number stays, as it does where a table kills an entry.
		ahead.T = api.TDead
	}
}

// Drop drops an object.
func (m *Mem) Drop(h int) {
	if m.made() {
		delete(m.things, h)
	}
}

// Roots are the roots.
func (m *Mem) Roots() []api.Value {
	if !m.made() {
		return nil
	}
	return slices.Clone(m.roots)
}
