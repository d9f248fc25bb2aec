package reach_test

import (
	"math/rand"
	"reflect"
	"slices"
	"testing"

	"heirloom/api"
	"heirloom/reach"
)

// The model says it as the chapter does: a table is split into its parts, and what is led to is asked again and again till nothing more is needed.

type modelPair struct {
	key, value api.Value
	slot       int // of the value
}

type modelTable struct {
	meta  []api.Value
	array []modelPair // without keys
	pairs []modelPair
}

func modelSplit(t api.Thing) modelTable {
	var m modelTable
	rest := t.Slots
	if len(rest) > 0 {
		m.meta, rest = rest[:1], rest[1:]
	}
	slot := 1
	for n := 0; n < t.Array && len(rest) > 0; n++ {
		m.array = append(m.array, modelPair{value: rest[0], slot: slot})
		rest = rest[1:]
		slot++
	}
	for len(rest) > 1 {
		m.pairs = append(m.pairs, modelPair{rest[0], rest[1], slot + 1})
		rest = rest[2:]
		slot += 2
	}
	if len(rest) == 1 {
		m.array = append(m.array, modelPair{value: rest[0], slot: slot})
	}
	return m
}

func modelObject(g api.Graph, v api.Value) bool {
	for i, t := range g.Things {
		if v.N == int64(i+1) {
			return v.T == t.Kind && slices.Contains(kinds, v.T)
		}
	}
	return false
}

func modelWeakly(g api.Graph, v api.Value) bool {
	return modelObject(g, v) && v.T != api.TStr
}

func modelWeak(t api.Thing) int {
	if t.Kind != api.TTable {
		return api.WeakNone
	}
	return t.Weak
}

// modelLeads lists the values to which an object leads; some may be no objects.
func modelLeads(g api.Graph, t api.Thing, needed map[int64]int) []api.Value {
	m := modelSplit(t)
	l := slices.Clone(m.meta)
	texts := func(v api.Value) {
		if v.T == api.TStr {
			l = append(l, v)
		}
	}
	switch modelWeak(t) {
	case api.WeakKeys:
		for _, p := range m.array {
			l = append(l, p.value)
		}
		for _, p := range m.pairs {
			if !modelWeakly(g, p.key) || needed[p.key.N] == 1 {
				l = append(l, p.key, p.value)
			}
		}
	case api.WeakValues:
		for _, p := range slices.Concat(m.array, m.pairs) {
			l = append(l, p.key)
			texts(p.value)
		}
	case api.WeakBoth:
		for _, p := range slices.Concat(m.array, m.pairs) {
			texts(p.key)
			texts(p.value)
		}
	default:
		l = slices.Clone(t.Slots)
	}
	return l
}

func modelNeeded(g api.Graph, more []int) map[int64]int {
	needed := map[int64]int{}
	for _, v := range g.Roots {
		if modelObject(g, v) {
			needed[v.N] = 1
		}
	}
	for _, h := range more {
		if h > 0 && h <= len(g.Things) {
			needed[int64(h)] = 1
		}
	}
	for size := -1; size != len(needed); {
		size = len(needed)
		for i, t := range g.Things {
			if needed[int64(i+1)] == 0 {
				continue
			}
			for _, v := range modelLeads(g, t, needed) {
				if modelObject(g, v) {
					needed[v.N] = 1
				}
			}
		}
	}
	return needed
}

func modelList(g api.Graph, needed map[int64]int) []bool {
	l := make([]bool, len(g.Things))
	for i := range l {
		l[i] = needed[int64(i+1)] == 1
	}
	return l
}

func modelCollect(g api.Graph) api.Found {
	first := modelNeeded(g, nil)
	var pending []int
	for range g.Things {
		best := 0
		for i, t := range g.Things {
			if t.Fin < 1 || first[int64(i+1)] == 1 || slices.Contains(pending, i+1) {
				continue
			}
			if best == 0 || t.Fin >= g.Things[best-1].Fin {
				best = i + 1
			}
		}
		if best > 0 {
			pending = append(pending, best)
		}
	}
	live := modelNeeded(g, pending)
	f := api.Found{Live: modelList(g, live), Pending: pending}
	for i, t := range g.Things {
		for slot := range t.Slots {
			if live[int64(i+1)] == 1 && modelCleared(g, i+1, slot, first, live) {
				f.Cleared = append(f.Cleared, api.Entry{H: i + 1, Slot: slot})
			}
		}
	}
	return f
}

func modelCleared(g api.Graph, h, slot int, first, live map[int64]int) bool {
	t := g.Things[h-1]
	m := modelSplit(t)
	for _, p := range slices.Concat(m.array, m.pairs) {
		if p.slot != slot {
			continue
		}
		weak := modelWeak(t)
		if (weak == api.WeakValues || weak == api.WeakBoth) && modelWeakly(g, p.value) {
			if live[p.value.N] == 0 || first[int64(h)] == 1 && first[p.value.N] == 0 {
				return true
			}
		}
		if (weak == api.WeakKeys || weak == api.WeakBoth) && modelWeakly(g, p.key) && live[p.key.N] == 0 {
			return true
		}
	}
	return false
}

func modelRight(g api.Graph) bool {
	fins := map[int]int{}
	values := slices.Clone(g.Roots)
	for _, t := range g.Things {
		values = append(values, t.Slots...)
		if t.Fin != 0 {
			fins[t.Fin]++
		}
		bad := !slices.Contains(kinds, t.Kind) || t.Weak < 0 || t.Weak > 3 || t.Fin < 0 || fins[t.Fin] > 1 || t.Array < 0
		bad = bad || t.Kind != api.TTable && (t.Weak != 0 || t.Fin != 0)
		if bad || t.Array >= len(t.Slots) && t.Array > 0 {
			return false
		}
	}
	for _, v := range values {
		if slices.Contains(kinds, v.T) && !modelObject(g, v) {
			return false
		}
	}
	return true
}

// A maker makes graphs that are right, small and dense, or large and thin.
type maker struct{ *rand.Rand }

func (m maker) value(g api.Graph) api.Value {
	switch n := len(g.Things); m.Intn(6) {
	case 0:
		return none
	case 1:
		return api.Value{T: []int{api.TBool, api.TInt, api.TFloat, api.TNative, api.TDead}[m.Intn(5)], N: int64(m.Intn(n + 2))}
	default:
		h := m.Intn(n)
		return api.Value{T: g.Things[h].Kind, N: int64(h + 1)}
	}
}

func (m maker) graph(size int) api.Graph {
	var g api.Graph
	fins := m.Perm(2 * size)
	for i := range m.Intn(size) + 1 {
		t := api.Thing{Kind: api.TTable}
		if m.Intn(2) == 0 {
			t.Kind = kinds[m.Intn(len(kinds))]
		}
		if t.Kind == api.TTable {
			t.Weak = m.Intn(4)
			t.Fin = max(0, fins[i]-size)
		}
		g.Things = append(g.Things, t)
	}
	for i := range g.Things {
		t := &g.Things[i]
		for range m.Intn(8) {
			t.Slots = append(t.Slots, m.value(g))
		}
		if len(t.Slots) > 0 {
			t.Array = m.Intn(len(t.Slots))
		}
	}
	for range m.Intn(3) {
		g.Roots = append(g.Roots, m.value(g))
	}
	return g
}

// spoil makes one thing of a graph otherwise, as a rule wrong.
func (m maker) spoil(g api.Graph) {
	t := &g.Things[m.Intn(len(g.Things))]
	odd := []int{-1 << 63, -2, -1, 0, 1, 2, 3, 4, 5, 9, 10, 1<<63 - 1}[m.Intn(12)]
	switch m.Intn(6) {
	case 0:
		t.Kind = odd
	case 1:
		t.Weak = odd
	case 2:
		t.Array = odd
	case 3:
		t.Fin = odd
	case 4:
		if len(t.Slots) > 0 {
			t.Slots[m.Intn(len(t.Slots))] = m.odd(g)
		}
	case 5:
		if len(g.Roots) > 0 {
			g.Roots[m.Intn(len(g.Roots))] = m.odd(g)
		}
	}
}

func (m maker) odd(g api.Graph) api.Value {
	h := m.Intn(len(g.Things))
	l := notObjects(g.Things[h].Kind, int64(h+1), int64(len(g.Things)))
	return l[m.Intn(len(l))]
}

func (m maker) more(g api.Graph) []int {
	var l []int
	for range m.Intn(4) {
		l = append(l, m.Intn(len(g.Things)+3)-1)
	}
	return l
}

func checkModel(t *testing.T, g api.Graph, more []int) {
	t.Helper()
	if got, want := reach.Right(g), modelRight(g); got != want {
		t.Fatalf("Right of %v: %v, want %v", g, got, want)
	}
	if got, want := reach.Strong(g, more...), modelList(g, modelNeeded(g, more)); !slices.Equal(got, want) {
		t.Fatalf("Strong of %v and %v: %v, want %v", g, more, got, want)
	}
	got, want := reach.Collect(g), modelCollect(g)
	if !slices.Equal(got.Live, want.Live) || !slices.Equal(got.Pending, want.Pending) || !slices.Equal(got.Cleared, want.Cleared) {
		t.Fatalf("Collect of %v: %v, want %v", g, got, want)
	}
}

func TestP11_1P11_2Model(t *testing.T) {
	m := maker{rand.New(rand.NewSource(11))}
	for i := range 30000 {
		g := m.graph(2 + i%12)
		if !reach.Right(g) {
			t.Fatalf("a graph that was made right is not: %v", g)
		}
		checkModel(t, g, m.more(g))
	}
}

func TestP11_1P11_2ModelOfWrong(t *testing.T) {
	m := maker{rand.New(rand.NewSource(12))}
	for i := range 30000 {
		g := m.graph(2 + i%12)
		for range 1 + m.Intn(4) {
			m.spoil(g)
		}
		ahead := copyOf(g)
		checkModel(t, g, m.more(g))
		if !reflect.DeepEqual(g, ahead) {
			t.Fatal("what was handed in has changed")
		}
	}
}

// All graphs of two tables, the first one a root, with up to two slots each of values of either.
func TestP11_1P11_2AllSmall(t *testing.T) {
	vs := []api.Value{none, tab(1), tab(2), str(3)}
	for weak := range 16 {
		for arrays := range 4 {
			for slots := range 1 << 12 {
				pick := func(i int) api.Value { return vs[slots>>(2*i)&3] }
				one := table(weak&3, arrays&1, none, pick(0), pick(1), pick(2))
				two := table(weak>>2, arrays>>1, none, pick(3), pick(4), pick(5))
				two.Fin = slots & 1
				checkModel(t, graph([]int{1}, one, two, thing(api.TStr)), nil)
			}
		}
	}
}
