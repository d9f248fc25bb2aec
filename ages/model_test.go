package ages_test

import (
	"math/rand"
	"slices"
	"testing"

	"heirloom/ages"
	"heirloom/api"
)

// The model says the rules one by one, as the chapter does: each is asked of each object, and of each slot.

func modelYoung(age int) bool { return slices.Contains([]int{api.New, api.Survival}, age) }

// modelLeads is the object to which a value leads, if there is one; typed tells whether it is of a type that should.
func modelLeads(v api.View, x api.Value) (to *api.Seen, typed bool) {
	if !slices.Contains(kinds, x.T) {
		return nil, false
	}
	for i, s := range v.Seen {
		if int64(s.H) == x.N && s.Thing.Kind == x.T {
			return &v.Seen[i], true
		}
	}
	return nil, true
}

// modelOther tells whether a colour is the other white, if there is one that White is not.
func modelOther(v api.View, colour int) bool {
	if v.White == api.White0 || v.White == api.White1 {
		return colour == otherOf(v.White)
	}
	return colour == api.White0 || colour == api.White1
}

func modelObject(v api.View, s api.Seen) bool {
	is := func(colour int) bool { return s.Colour == colour }
	among := slices.Contains(v.Again, s.H)
	step, pause, mark, sweep := v.Mode == api.ModeInc, v.Phase == api.PhasePause, v.Phase == api.PhaseMark, v.Phase == api.PhaseSweep
	generations := v.Mode == api.ModeGen
	return slices.Contains([]bool{
		step && s.Age != api.New,
		step && pause && !is(v.White),
		step && mark && modelOther(v, s.Colour),
		step && sweep && is(api.Grey),
		generations && !pause,
		generations && modelYoung(s.Age) && !is(v.White),
		generations && s.Age == api.Touched1 && (!is(api.Grey) || !among),
		generations && s.Age == api.Old1 && !is(api.Black),
		generations && s.Age == api.Old && !is(api.Black),
		generations && s.Age == api.Touched2 && !is(api.Black),
		generations && s.Age == api.Old0 && !is(api.Grey) && !is(api.Black),
		generations && !slices.Contains(allAges, s.Age),
		!step && !generations,
		!pause && !mark && !sweep,
	}, true)
}

func modelSlot(v api.View, s api.Seen, x api.Value) bool {
	swept := v.Mode == api.ModeInc && v.Phase == api.PhaseSweep
	if swept && modelOther(v, s.Colour) {
		return false
	}
	to, typed := modelLeads(v, x)
	if to == nil {
		return typed
	}
	generations := v.Mode == api.ModeGen
	return slices.Contains([]bool{
		v.Mode == api.ModeInc && v.Phase == api.PhaseMark && s.Colour == api.Black && to.Colour == v.White,
		swept && modelOther(v, to.Colour),
		generations && s.Age == api.Old && modelYoung(to.Age),
		generations && s.Age == api.Old1 && to.Age == api.New,
		generations && s.Age == api.Touched2 && to.Age == api.New,
	}, true)
}

func modelAudit(v api.View) []api.Wrong {
	var l []api.Wrong
	for _, s := range v.Seen {
		if modelObject(v, s) {
			l = append(l, api.Wrong{H: s.H, Slot: -1})
		}
		for slot, x := range s.Thing.Slots {
			if modelSlot(v, s, x) {
				l = append(l, api.Wrong{H: s.H, Slot: slot})
			}
		}
	}
	return l
}

func checkModel(t *testing.T, v api.View) {
	t.Helper()
	if got, want := ages.Audit(v), modelAudit(v); !slices.Equal(got, want) {
		t.Fatalf("Audit of %v: %v, want %v", v, got, want)
	}
}

// All views of two objects with the modes, phases, whites, colours and ages from one below to one beyond: the first one leads to both and nowhere.
func TestP12_2AllOfTwo(t *testing.T) {
	slots := []api.Value{tab(2), tab(1), tab(3), {T: api.TInt, N: 2}}
	v := api.View{Seen: []api.Seen{one(1, 0, 0, slots...), one(2, 0, 0)}}
	for state := range 4 * 5 * 4 * 2 {
		v.Mode, v.Phase, v.White = state%4-1, state/4%5-1, state/20%4-1
		v.Again = []int{2, 1}[:1+state/80]
		for looks := range 6 * 9 * 6 * 9 {
			v.Seen[0].Colour, v.Seen[0].Age = looks%6-1, looks/6%9-1
			v.Seen[1].Colour, v.Seen[1].Age = looks/54%6-1, looks/324-1
			checkModel(t, v)
		}
	}
}

// A maker makes views: as a rule nearly right, else of any numbers.
type maker struct{ *rand.Rand }

func (m maker) pick(l []int) int { return l[m.Intn(len(l))] }

// mostly picks from the first list, now and then from the second one.
func (m maker) mostly(l, odd []int) int {
	if m.Intn(12) == 0 {
		return m.pick(odd)
	}
	return m.pick(l)
}

func (m maker) value(seen []api.Seen) api.Value {
	to := seen[m.Intn(len(seen))]
	x := leading(to.Thing.Kind, to.H)
	switch m.Intn(10) {
	case 0:
		x.T = m.Intn(14) - 1
	case 1:
		x.N += int64(m.Intn(3) - 1)
	}
	return x
}

func (m maker) view(size int) api.View {
	v := api.View{Mode: m.mostly([]int{api.ModeInc, api.ModeGen}, noModes), White: m.mostly([]int{api.White0, api.White1}, noWhites)}
	if v.Mode == api.ModeInc || m.Intn(4) == 0 {
		v.Phase = m.mostly(phases, noPhases)
	}
	for range m.Intn(size) + 1 {
		s := one(m.Intn(2*size)-1, m.mostly(allColours, noColours), m.mostly(allAges, noAges))
		if right := coloursOf(s.Age, v.White); len(right) > 0 && m.Intn(3) > 0 {
			s.Colour = m.pick(right)
		}
		if v.Mode == api.ModeInc && m.Intn(4) > 0 {
			s.Age = api.New
		}
		v.Seen = append(v.Seen, as(m.mostly(kinds, []int{-1, 0, 3, 10, 11}), s))
		if m.Intn(2) == 0 {
			v.Again = append(v.Again, s.H)
		}
	}
	for i := range v.Seen {
		for range m.Intn(6) {
			v.Seen[i].Thing.Slots = append(v.Seen[i].Thing.Slots, m.value(v.Seen))
		}
	}
	return v
}

func TestP12_2Model(t *testing.T) {
	m := maker{rand.New(rand.NewSource(12))}
	for i := range 60000 {
		checkModel(t, m.view(1+i%20))
	}
}

// No slot is told twice of one object, and they rise.
func TestP12_2Rising(t *testing.T) {
	m := maker{rand.New(rand.NewSource(1212))}
	for i := range 20000 {
		v := m.view(1 + i%8)
		for j := range v.Seen {
			v.Seen[j].H = j + 1
		}
		l := ages.Audit(v)
		for j := 1; j < len(l); j++ {
			if a, b := l[j-1], l[j]; a.H > b.H || a.H == b.H && a.Slot >= b.Slot {
				t.Fatalf("Audit of %v: %v behind %v", v, b, a)
			}
		}
	}
}

// Many objects that all lead to many take time by their slots, not by their squares.
func TestP12_2Many(t *testing.T) {
	const n = 60000
	v := gen(api.White0)
	for h := range n {
		s := one(h, api.Grey, api.Touched1, tab(n-1-h), tab((h+1)%n), tab(n+h))
		v.Seen = append(v.Seen, s)
		v.Again = append(v.Again, n-1-h)
	}
	l := ages.Audit(v)
	if len(l) != n {
		t.Fatalf("%d are told, want %d", len(l), n)
	}
	for h, w := range l {
		if w != (api.Wrong{H: h, Slot: 2}) {
			t.Fatalf("%v is told in the place %d", w, h)
		}
	}
}
