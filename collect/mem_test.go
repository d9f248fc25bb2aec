package collect_test

import (
	"math"
	"reflect"
	"testing"

	"heirloom/api"
	"heirloom/collect"
)

// aGraph has an object of each kind, handles 1 to 6 in the order of kinds, all of them led to by the table.
func aGraph() api.Graph {
	all := []api.Value{none, str(1), tab(2), fun(3), box(4), leading(api.TThread, 5), leading(api.TProto, 6), whole(7)}
	two := api.Thing{Kind: api.TTable, Weak: api.WeakBoth, Array: 3, Slots: all, Fin: 9}
	return graph([]int{2}, thing(api.TStr), two, thing(api.TFunc, leading(api.TProto, 6), box(4)), thing(api.TBox, none), thing(api.TThread), thing(api.TProto, str(1)))
}

func TestP13_1NewMem(t *testing.T) {
	g := aGraph()
	m := collect.NewMem(g)
	checkList(t, "Order", m.Order(), 1, 2, 3, 4, 5, 6)
	checkList(t, "Roots", m.Roots(), tab(2))
	for i, want := range g.Things {
		h := i + 1
		got := m.Thing(h)
		got.Slots, want.Slots = full(got.Slots), full(want.Slots)
		if !reflect.DeepEqual(got, want) {
			t.Errorf("the object %d is %v, want %v", h, got, want)
		}
		check(t, "Kind", m.Kind(h), kinds[i])
		check(t, "Cells", m.Cells(h), 1+len(want.Slots))
		checkLooks(t, "NewMem", m, h, api.White0, api.New)
	}
}

func TestP13_1NewMemEmpty(t *testing.T) {
	m := collect.NewMem(api.Graph{})
	if m == nil {
		t.Fatal("NewMem of an empty graph: nil")
	}
	check(t, "objects", len(m.Order()), 0)
	check(t, "roots", len(m.Roots()), 0)
	check(t, "Add", m.Add(table()), 1)
	check(t, "Add", m.Add(thing(api.TStr)), 2)
}

// wrongThings are not right by themselves; right ones are beside each.
func wrongThings() []api.Thing {
	slot := []api.Value{none}
	l := []api.Thing{{}, {Kind: api.TStr, Slots: slot}, {Kind: api.TStr, Slots: []api.Value{none, none}},
		{Kind: api.TTable, Weak: -1}, {Kind: api.TTable, Weak: 4}, {Kind: api.TTable, Weak: math.MaxInt}, {Kind: api.TTable, Weak: math.MinInt},
		{Kind: api.TTable, Array: -1}, {Kind: api.TTable, Array: 1}, {Kind: api.TTable, Array: 1, Slots: slot}, {Kind: api.TTable, Array: math.MaxInt, Slots: slot}, {Kind: api.TTable, Array: math.MinInt, Slots: slot},
		{Kind: api.TBox, Array: 1, Slots: slot}, {Kind: api.TTable, Fin: -1}, {Kind: api.TTable, Fin: math.MinInt}}
	for _, kind := range []int{math.MinInt, -1, api.TNil, api.TBool, api.TInt, api.TFloat, api.TNative, api.TDead, 12, math.MaxInt, api.TTable + 1<<32} {
		l = append(l, api.Thing{Kind: kind})
	}
	for _, kind := range kinds {
		if kind != api.TTable {
			l = append(l, api.Thing{Kind: kind, Weak: api.WeakKeys}, api.Thing{Kind: kind, Weak: api.WeakBoth}, api.Thing{Kind: kind, Fin: 1})
		}
	}
	return l
}

func rightThings() []api.Thing {
	slots := []api.Value{none, none}
	l := []api.Thing{{Kind: api.TTable, Weak: 1}, {Kind: api.TTable, Weak: 2}, {Kind: api.TTable, Weak: 3}, {Kind: api.TTable, Fin: math.MaxInt}, {Kind: api.TTable, Fin: 1}}
	for _, kind := range kinds {
		l = append(l, api.Thing{Kind: kind}, api.Thing{Kind: kind, Slots: []api.Value{}})
		if kind != api.TStr {
			l = append(l, api.Thing{Kind: kind, Slots: slots}, api.Thing{Kind: kind, Array: 1, Slots: slots})
		}
	}
	return l
}

func TestP13_1NewMemWrong(t *testing.T) {
	for _, w := range wrongThings() {
		if collect.NewMem(graph(nil, w)) != nil || collect.NewMem(graph(nil, table(), w, table())) != nil {
			t.Errorf("NewMem of %v: not nil", w)
		}
	}
	for _, r := range rightThings() {
		if collect.NewMem(graph(nil, r)) == nil {
			t.Errorf("NewMem of %v: nil", r)
		}
	}
	for _, g := range []api.Graph{
		graph(nil, marked(3), marked(3)),
		graph(nil, table(tab(2))),
		graph(nil, table(tab(0))),
		graph(nil, table(box(1))),
		graph(nil, table(str(1))),
		{Roots: []api.Value{tab(1)}},
		{Things: []api.Thing{table()}, Roots: []api.Value{tab(1), none, fun(1)}},
	} {
		if collect.NewMem(g) != nil {
			t.Errorf("NewMem of %v: not nil", g)
		}
	}
}

func TestP13_1Add(t *testing.T) {
	m := collect.NewMem(aGraph())
	for _, w := range wrongThings() {
		check(t, "Add of a wrong one", m.Add(w), 0)
	}
	checkList(t, "behind wrong ones", m.Order(), 1, 2, 3, 4, 5, 6)
	for i, r := range rightThings() {
		h := m.Add(r)
		check(t, "Add of a right one", h, 7+i)
		checkLooks(t, "Add", m, h, api.White0, api.New)
		got := m.Thing(h)
		got.Slots, r.Slots = full(got.Slots), full(r.Slots)
		if !reflect.DeepEqual(got, r) {
			t.Errorf("the object %d is %v, want %v", h, got, r)
		}
	}
}

// What its slots lead to, and whether another one has its Fin, is not of a thing by itself.
func TestP13_1AddBeside(t *testing.T) {
	m := collect.NewMem(graph(nil, marked(3)))
	check(t, "the same Fin", m.Add(marked(3)), 2)
	check(t, "slots that lead nowhere", m.Add(table(tab(9), box(1), str(-1), leading(api.TDead, 1))), 3)
	checkSlots(t, "Add", m, 3, tab(9), box(1), str(-1), leading(api.TDead, 1))
	check(t, "one that leads to itself", m.Add(thing(api.TBox, box(4))), 4)
}

// No handle is given twice, whatever is dropped.
func TestP13_1AddHandles(t *testing.T) {
	m := collect.NewMem(graph(nil, table(), table()))
	m.Drop(2)
	check(t, "behind the greatest one's drop", m.Add(table()), 3)
	m.Drop(3)
	m.Drop(1)
	check(t, "behind the last one's drop", m.Add(table()), 4)
	check(t, "a wrong one", m.Add(api.Thing{}), 0)
	check(t, "behind a wrong one", m.Add(table()), 5)
	checkList(t, "Order", m.Order(), 4, 5)
}

func TestP13_1Set(t *testing.T) {
	m := collect.NewMem(graph([]int{1}, table(none, whole(1)), thing(api.TStr), thing(api.TBox, none)))
	for _, v := range []api.Value{tab(1), none, tab(77), box(1), {T: api.TStr, N: math.MinInt64}, {T: -5, N: 5}, {T: math.MaxInt}} {
		check(t, "Set", m.Set(1, 1, v), true)
		checkSlots(t, "Set", m, 1, none, v)
	}
	check(t, "Set of the first slot", m.Set(1, 0, str(2)), true)
	checkSlots(t, "Set of the first slot", m, 1, str(2), api.Value{T: math.MaxInt})
	for _, slot := range []int{math.MinInt, -1, 2, 3, math.MaxInt} {
		check(t, "Set of a slot that is not there", m.Set(1, slot, whole(5)), false)
	}
	check(t, "Set of a string", m.Set(2, 0, none), false)
	for _, h := range append([]int{4}, noHandles...) {
		check(t, "Set of an object that is not there", m.Set(h, 0, whole(5)), false)
	}
	m.Drop(3)
	check(t, "Set of one that was dropped", m.Set(3, 0, none), false)
	checkSlots(t, "behind what is not there", m, 1, str(2), api.Value{T: math.MaxInt})
}

func TestP13_1SetRoots(t *testing.T) {
	m := collect.NewMem(aGraph())
	m.SetRoots(str(1), none, tab(-4), box(2), str(1))
	checkList(t, "Roots", m.Roots(), str(1), none, tab(-4), box(2), str(1))
	m.SetRoots()
	check(t, "no roots", len(m.Roots()), 0)
}

func TestP13_1Drop(t *testing.T) {
	m := collect.NewMem(aGraph())
	for _, h := range noHandles {
		m.Drop(h)
	}
	checkList(t, "Drop of none", m.Order(), 1, 2, 3, 4, 5, 6)
	m.Drop(3)
	m.Drop(3)
	m.Drop(1)
	checkList(t, "Order", m.Order(), 2, 4, 5, 6)
	checkNothing(t, "a dropped one", m, 3)
	checkList(t, "the slots of another one", m.Thing(2).Slots, aGraph().Things[1].Slots...)
	checkList(t, "Roots", m.Roots(), tab(2))
}

// checkNothing asks all of an object that is not there.
func checkNothing(t *testing.T, name string, m *collect.Mem, h int) {
	t.Helper()
	for range 2 {
		if got := m.Thing(h); !reflect.DeepEqual(got, api.Thing{}) {
			t.Errorf("%s: Thing(%d) = %v", name, h, got)
		}
		if m.Kind(h) != 0 || m.Cells(h) != 0 || m.Colour(h) != 0 || m.Age(h) != 0 {
			t.Errorf("%s: of %d something is told", name, h)
		}
		m.SetColour(h, api.Black)
		m.SetAge(h, api.Old)
		m.SetFin(h, 4)
		m.Clear(h, 0, false)
		m.Clear(h, 1, true)
		m.Drop(h)
	}
}

func TestP13_1NotThere(t *testing.T) {
	m := collect.NewMem(aGraph())
	ahead := collect.New(m).View()
	for _, h := range append([]int{7}, noHandles...) {
		checkNothing(t, "no object", m, h)
	}
	if got := collect.New(m).View(); !same(got, ahead) {
		t.Errorf("%v, want %v", got, ahead)
	}
}

func TestP13_1SetLooks(t *testing.T) {
	m := collect.NewMem(aGraph())
	for _, n := range []int{math.MinInt, -1, 0, 1, 2, 3, 4, 5, 6, 7, math.MaxInt} {
		for h := range 6 {
			m.SetColour(h+1, n)
			m.SetAge(h+1, n^1)
			m.SetFin(h+1, n^2)
			checkLooks(t, "set", m, h+1, n, n^1)
			check(t, "Fin", m.Thing(h+1).Fin, n^2)
		}
	}
	check(t, "what it holds weakly", m.Thing(2).Weak, api.WeakBoth)
}

func TestP13_1Clear(t *testing.T) {
	start := []api.Value{tab(1), tab(2), tab(3), tab(4)}
	rows := []struct {
		name string
		slot int
		key  bool
		want []api.Value
	}{
		{"a value", 3, false, []api.Value{tab(1), tab(2), tab(3), none}},
		{"a value and its key", 3, true, []api.Value{tab(1), tab(2), {T: api.TDead, N: 3}, none}},
		{"in the middle", 1, true, []api.Value{{T: api.TDead, N: 1}, none, tab(3), tab(4)}},
		{"the first slot", 0, false, []api.Value{none, tab(2), tab(3), tab(4)}},
		{"the first slot, with key", 0, true, start},
		{"a slot that is not there", 4, false, start},
		{"a slot that is not there, but the one ahead is", 4, true, start},
		{"below", -1, false, start},
		{"below, with key", -1, true, start},
		{"least", math.MinInt, true, start},
		{"greatest", math.MaxInt, true, start},
	}
	for _, r := range rows {
		m := collect.NewMem(graph(nil, table(start...), table(), table(), table()))
		m.Clear(1, r.slot, r.key)
		checkSlots(t, r.name, m, 1, r.want...)
	}
	m := collect.NewMem(graph(nil, thing(api.TFunc, whole(5), whole(6)), thing(api.TStr)))
	m.Clear(1, 1, true)
	checkSlots(t, "a key that is no object", m, 1, api.Value{T: api.TDead, N: 5}, none)
	m.Clear(2, 0, false)
	checkSlots(t, "a string", m, 2)
}

// Nothing that is handed in is kept, or changed, and nothing that is handed out is.
func TestP13_1OwnMemory(t *testing.T) {
	g := aGraph()
	m := collect.NewMem(g)
	if !reflect.DeepEqual(g, aGraph()) {
		t.Error("NewMem changes what it is given")
	}
	ahead := collect.New(m).View()
	for i := range g.Things {
		clear(g.Things[i].Slots)
	}
	clear(g.Things)
	clear(g.Roots)
	clear(m.Thing(2).Slots)
	clear(m.Order())
	clear(m.Roots())
	if got := collect.New(m).View(); !same(got, ahead) {
		t.Errorf("%v, want %v", got, ahead)
	}
	checkList(t, "Roots", m.Roots(), tab(2))
	slots := []api.Value{none, whole(1)}
	h := m.Add(table(slots...))
	slots[1] = none
	checkSlots(t, "Add", m, h, none, whole(1))
	m.Set(h, 1, whole(3))
	checkList(t, "what was added", slots, none, none)
	roots := []api.Value{tab(2), str(1)}
	m.SetRoots(roots...)
	roots[0] = none
	checkList(t, "SetRoots", m.Roots(), tab(2), str(1))
}

func TestP13_1Nil(t *testing.T) {
	for _, m := range []*collect.Mem{nil, {}} {
		check(t, "Add", m.Add(table()), 0)
		m.SetRoots(tab(1))
		check(t, "Roots", len(m.Roots()), 0)
		check(t, "Order", len(m.Order()), 0)
		for _, h := range append([]int{1}, noHandles...) {
			check(t, "Set", m.Set(h, 0, none), false)
			checkNothing(t, "nil", m, h)
		}
	}
}
