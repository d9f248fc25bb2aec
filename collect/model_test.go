package collect_test

import (
	"slices"

	"heirloom/ages"
	"heirloom/api"
)

// The model does what the chapter says, word by word, over a list of objects of its own.

type modelOne struct {
	h      int
	thing  api.Thing
	colour int
	age    int
}

type model struct {
	ones     []*modelOne
	greatest int
	roots    []api.Value

	mode, phase, white   int
	grey, again, pending []int
	base                 int
	toSweep              []int

	weakOnes []int // while marking ends
	marks    int   // how often something was marked

	told []told // what the objects were told
}

// told is a call of Clear, or (with the slot -1) of Drop.
type told struct {
	h, slot int
	key     bool
}

func newModel(g api.Graph) *model {
	m := &model{roots: slices.Clone(g.Roots)}
	for _, t := range g.Things {
		m.add(t)
	}
	return m
}

func (m *model) add(t api.Thing) int {
	m.greatest++
	m.addAs(m.greatest, t)
	return m.greatest
}

// addAs makes an object with a handle that is not there.
func (m *model) addAs(h int, t api.Thing) {
	t.Slots = slices.Clone(t.Slots)
	m.greatest = max(m.greatest, h)
	m.ones = append(m.ones, &modelOne{h: h, thing: t})
}

func (m *model) at(h int) *modelOne {
	for _, o := range m.ones {
		if o.h == h {
			return o
		}
	}
	return nil
}

func (m *model) drop(h int) {
	m.ones = slices.DeleteFunc(m.ones, func(o *modelOne) bool { return o.h == h })
}

func (m *model) set(h, slot int, v api.Value) bool {
	o := m.at(h)
	if o == nil || slot < 0 || slot >= len(o.thing.Slots) {
		return false
	}
	o.thing.Slots[slot] = v
	return true
}

func (m *model) order() []int {
	var l []int
	for _, o := range m.ones {
		l = append(l, o.h)
	}
	return l
}

func (m *model) view() api.View {
	v := api.View{Mode: m.mode, Phase: m.phase, White: m.white, Grey: slices.Clone(m.grey), Again: slices.Clone(m.again), Pending: slices.Clone(m.pending)}
	for _, o := range m.ones {
		t := o.thing
		t.Slots = slices.Clone(t.Slots)
		v.Seen = append(v.Seen, api.Seen{H: o.h, Thing: t, Colour: o.colour, Age: o.age})
	}
	return v
}

func (m *model) live() int {
	n := 0
	for _, o := range m.ones {
		n += 1 + len(o.thing.Slots)
	}
	return n
}

// leadsTo is the object to which a value leads, if there is one.
func (m *model) leadsTo(v api.Value) *modelOne {
	if !slices.Contains(kinds, v.T) {
		return nil
	}
	for _, o := range m.ones {
		if int64(o.h) == v.N && o.thing.Kind == v.T {
			return o
		}
	}
	return nil
}

func (m *model) isWhite(v api.Value) bool {
	o := m.leadsTo(v)
	return o != nil && o.colour == m.white
}

// weakly tells whether a value is held weakly, where a table does so.
func (m *model) weakly(v api.Value) bool { return m.leadsTo(v) != nil && v.T != api.TStr }

func (m *model) mark(v api.Value) {
	if !m.isWhite(v) {
		return
	}
	m.marks++
	o := m.leadsTo(v)
	if o.thing.Kind == api.TStr {
		o.colour = api.Black
		return
	}
	o.colour = api.Grey
	m.grey = append(m.grey, o.h)
}

func (m *model) markRoots() {
	for _, v := range m.roots {
		m.mark(v)
	}
	for _, h := range m.pending {
		if o := m.at(h); o != nil {
			m.mark(leading(o.thing.Kind, h))
		}
	}
}

func modelWeak(t api.Thing) int {
	if t.Kind != api.TTable {
		return api.WeakNone
	}
	return t.Weak
}

func (m *model) goThrough(o *modelOne) {
	if modelWeak(o.thing) != api.WeakNone {
		if len(o.thing.Slots) > 0 {
			m.mark(o.thing.Slots[0])
		}
		m.again = append(m.again, o.h)
		return
	}
	o.colour = api.Black
	for _, v := range o.thing.Slots {
		m.mark(v)
	}
}

func (m *model) goThroughLast() {
	h := m.grey[len(m.grey)-1]
	m.grey = m.grey[:len(m.grey)-1]
	if o := m.at(h); o != nil {
		m.goThrough(o)
	}
}

func (m *model) goOn() {
	for len(m.grey) > 0 {
		m.goThroughLast()
	}
}

// keyOf is the slot of the key of the value in a slot; -1, if it has none; false, if the slot is no value's.
func keyOf(t api.Thing, slot int) (int, bool) {
	behind := slot - 1 - t.Array
	last := slot == len(t.Slots)-1
	switch {
	case slot == 0:
		return -1, false
	case behind < 0:
		return -1, true
	case behind%2 == 1:
		return slot - 1, true
	default: // a key, or an incomplete pair
		return -1, last
	}
}

// leads lists the values to which a weak table leads, as far as those asked go.
func (m *model) leads(t api.Thing, slot int) bool {
	v := t.Slots[slot]
	key, value := keyOf(t, slot)
	switch {
	case slot == 0:
		return true
	case t.Weak == api.WeakBoth:
		return v.T == api.TStr
	case t.Weak == api.WeakValues:
		return !value || v.T == api.TStr
	case !value:
		return !m.weakly(v) || !m.isWhite(v)
	case key < 0:
		return true
	default:
		return !m.weakly(t.Slots[key]) || !m.isWhite(t.Slots[key])
	}
}

func (m *model) second() {
	for len(m.again) > 0 {
		o := m.at(m.again[0])
		m.again = m.again[1:]
		if o == nil {
			continue
		}
		if modelWeak(o.thing) == api.WeakNone {
			m.goThrough(o)
			m.goOn()
		} else if !slices.Contains(m.weakOnes, o.h) {
			m.weakOnes = append(m.weakOnes, o.h)
		}
	}
}

func (m *model) third() {
	for ahead := -1; ahead != m.marks; {
		ahead = m.marks
		for _, h := range m.weakOnes {
			t := m.at(h).thing
			for slot, v := range t.Slots {
				if m.leads(t, slot) {
					m.mark(v)
				}
			}
		}
		m.goOn()
		m.second()
	}
}

func (m *model) fourth() {
	for _, h := range m.weakOnes {
		t := m.at(h).thing
		if t.Weak != api.WeakValues && t.Weak != api.WeakBoth {
			continue
		}
		for slot, v := range t.Slots {
			if _, is := keyOf(t, slot); is && m.weakly(v) && m.isWhite(v) {
				t.Slots[slot] = none
				m.told = append(m.told, told{h, slot, false})
			}
		}
	}
}

func (m *model) fifth() {
	for {
		var best *modelOne
		for _, o := range m.ones {
			if o.colour != m.white || o.thing.Fin <= 0 {
				continue
			}
			if best == nil || o.thing.Fin > best.thing.Fin || o.thing.Fin == best.thing.Fin && o.h > best.h {
				best = o
			}
		}
		if best == nil {
			break
		}
		m.pending = append(m.pending, best.h)
		best.thing.Fin = 0
		m.mark(leading(best.thing.Kind, best.h))
	}
	m.goOn()
}

func (m *model) sixth() {
	for _, h := range m.weakOnes {
		t := m.at(h).thing
		keys := t.Weak == api.WeakKeys || t.Weak == api.WeakBoth
		values := t.Weak == api.WeakValues || t.Weak == api.WeakBoth
		for slot, v := range t.Slots {
			key, is := keyOf(t, slot)
			if !is {
				continue
			}
			dead := keys && key >= 0 && m.weakly(t.Slots[key]) && m.isWhite(t.Slots[key])
			if dead {
				t.Slots[key].T = api.TDead
			}
			if dead || values && m.weakly(v) && m.isWhite(v) {
				t.Slots[slot] = none
				m.told = append(m.told, told{h, slot, dead})
			}
		}
	}
}

func (m *model) endOfMarking() {
	m.weakOnes = nil
	m.markRoots()
	m.goOn()
	m.second()
	m.third()
	m.fourth()
	m.fifth()
	m.second()
	m.third()
	m.sixth()
	for _, h := range m.weakOnes {
		m.at(h).colour = api.Black
	}
	m.white = m.other()
}

func (m *model) other() int {
	if m.white == api.White0 {
		return api.White1
	}
	return api.White0
}

func (m *model) birth(h int) {
	if o := m.at(h); o != nil {
		o.colour, o.age = m.white, api.New
	}
}

func (m *model) write(h int, v api.Value) {
	o, to := m.at(h), m.leadsTo(v)
	if o == nil || o.colour != api.Black || to == nil || to.colour != m.white || m.phase != api.PhaseMark && m.mode != api.ModeGen {
		return
	}
	if o.thing.Kind == api.TTable || o.thing.Kind == api.TThread {
		o.colour = api.Grey
		m.again = append(m.again, h)
		o.age = ages.Back(o.age)
		return
	}
	m.mark(v)
	to.age = ages.Forward(o.age, to.age)
}

// lose drops an object that is not needed.
func (m *model) lose(h int) {
	m.told = append(m.told, told{h, -1, false})
	m.drop(h)
}

func (m *model) unit() {
	switch m.phase {
	case api.PhasePause:
		m.grey, m.again = nil, nil
		m.markRoots()
		m.phase = api.PhaseMark
	case api.PhaseMark:
		if len(m.grey) > 0 {
			m.goThroughLast()
			return
		}
		m.endOfMarking()
		m.phase = api.PhaseSweep
		m.toSweep = m.order()
	case api.PhaseSweep:
		if len(m.toSweep) == 0 {
			m.phase = api.PhasePause
			return
		}
		o := m.at(m.toSweep[0])
		m.toSweep = m.toSweep[1:]
		if o == nil {
			return
		}
		if o.colour == m.other() {
			m.lose(o.h)
		} else {
			o.colour, o.age = m.white, api.New
		}
	}
}

func (m *model) step(k int) bool {
	if m.mode == api.ModeGen {
		return false
	}
	for n := 0; n < k; n++ {
		m.unit()
		if m.phase == api.PhasePause {
			return true
		}
	}
	return false
}

func (m *model) whiten() {
	for _, o := range m.ones {
		o.colour, o.age = m.white, api.New
	}
	m.grey, m.again = nil, nil
}

func (m *model) major() {
	m.whiten()
	m.markRoots()
	m.goOn()
	m.endOfMarking()
	for _, h := range m.order() {
		switch o := m.at(h); {
		case o.colour == m.other():
			m.lose(h)
		case m.mode == api.ModeGen:
			o.colour, o.age = api.Black, api.Old
		default:
			o.colour, o.age = m.white, api.New
		}
	}
	m.phase = api.PhasePause
	m.base = m.live()
}

func (m *model) young() bool {
	if m.mode == api.ModeInc {
		return false
	}
	if m.base > 0 && m.live() > 2*m.base {
		m.major()
		return true
	}
	for _, o := range m.ones {
		if o.thing.Kind != api.TStr && (o.age == api.Old1 || o.age == api.Touched2) {
			o.colour = api.Grey
			m.grey = append(m.grey, o.h)
		}
	}
	m.endOfMarking()
	for _, h := range m.order() {
		o := m.at(h)
		if o.colour == m.other() {
			m.lose(h)
			continue
		}
		o.age = ages.Next(o.age)
		o.colour = api.Black
		if o.age == api.Survival {
			o.colour = m.white
		}
	}
	return false
}

func (m *model) setMode(mode int) {
	if mode == m.mode || mode != api.ModeInc && mode != api.ModeGen {
		return
	}
	m.mode = mode
	if mode == api.ModeGen {
		m.major()
		return
	}
	m.phase = api.PhasePause
	m.whiten()
}

func (m *model) take() (int, bool) {
	if len(m.pending) == 0 {
		return 0, false
	}
	h := m.pending[0]
	m.pending = m.pending[1:]
	return h, true
}
