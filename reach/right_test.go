package reach_test

import (
	"math"
	"testing"

	"heirloom/api"
	"heirloom/reach"
)

func checkRight(t *testing.T, name string, g api.Graph, want bool) {
	t.Helper()
	if got := reach.Right(g); got != want {
		t.Errorf("%s: Right is %v, want %v", name, got, want)
	}
}

func TestP11_1RightGraphs(t *testing.T) {
	checkRight(t, "no objects", api.Graph{}, true)
	checkRight(t, "empty lists", api.Graph{Things: []api.Thing{}, Roots: []api.Value{}}, true)
	checkRight(t, "roots that are no objects", api.Graph{Roots: []api.Value{none, whole(7), {T: api.TDead, N: 9}, {T: api.TNative, N: 300}, {T: 99, N: -1}}}, true)
	checkRight(t, "the same root twice", graph([]int{1, 1}, table(0, 0)), true)
	checkRight(t, "tables that lead to one another", graph([]int{1}, table(0, 0, tab(2)), table(0, 1, none, tab(1)), table(0, 0, tab(3), tab(3), tab(3))), true)
	checkRight(t, "an incomplete pair", graph(nil, table(api.WeakKeys, 0, none, tab(1))), true)
	checkRight(t, "a metatable that is none", graph(nil, table(0, 0, str(2)), thing(api.TStr)), true)
	for _, v := range notObjects(api.TTable, 1, 1)[:10] {
		checkRight(t, "a slot "+nameOf(v), graph(nil, table(0, 0, v)), true)
	}
}

func TestP11_1RightKind(t *testing.T) {
	for kind := -3; kind < 16; kind++ {
		is := kind >= api.TStr && kind <= api.TProto
		checkRight(t, "kind "+nameOf(kind), graph(nil, thing(kind)), is)
		checkRight(t, "kind of the last "+nameOf(kind), graph(nil, table(0, 0), thing(kind)), is)
	}
	checkRight(t, "greatest kind", graph(nil, thing(math.MaxInt)), false)
	checkRight(t, "least kind", graph(nil, thing(math.MinInt)), false)
}

func TestP11_1RightWeak(t *testing.T) {
	for _, weak := range []int{math.MinInt, -1, 0, 1, 2, 3, 4, 5, 7, math.MaxInt} {
		for _, kind := range kinds {
			want := weak == 0 || kind == api.TTable && weak >= 1 && weak <= 3
			checkRight(t, "weak "+nameOf(weak)+" of kind "+nameOf(kind), graph(nil, api.Thing{Kind: kind, Weak: weak}), want)
		}
	}
}

func TestP11_1RightArray(t *testing.T) {
	for slots := 0; slots < 5; slots++ {
		for _, array := range []int{math.MinInt, -1, 0, 1, 2, 3, 4, 5, 6, math.MaxInt} {
			for _, kind := range kinds {
				want := array == 0 || array > 0 && array < slots
				th := api.Thing{Kind: kind, Array: array, Slots: make([]api.Value, slots)}
				checkRight(t, "array "+nameOf(array)+" of "+nameOf(slots)+" slots, kind "+nameOf(kind), graph(nil, th), want)
			}
		}
	}
}

func TestP11_1RightFin(t *testing.T) {
	for _, fin := range []int{math.MinInt, -1, 0, 1, 2, 1 << 31, math.MaxInt} {
		for _, kind := range kinds {
			want := fin == 0 || kind == api.TTable && fin > 0
			checkRight(t, "fin "+nameOf(fin)+" of kind "+nameOf(kind), graph(nil, api.Thing{Kind: kind, Fin: fin}), want)
		}
	}
	checkRight(t, "unlike fins", graph(nil, marked(2), marked(0), marked(1), marked(0), marked(3)), true)
	checkRight(t, "two alike side by side", graph(nil, marked(1), marked(1)), false)
	checkRight(t, "two alike far off", graph(nil, marked(7), marked(0), marked(8), marked(0), marked(7)), false)
	checkRight(t, "two alike, one needed", graph([]int{1}, marked(3), marked(3)), false)
}

func TestP11_1RightValues(t *testing.T) {
	for _, kind := range kinds {
		is := api.Value{T: kind, N: 2}
		object := thing(kind)
		other := table(0, 0, none)
		checkRight(t, "a root", api.Graph{Things: []api.Thing{other, object, other}, Roots: []api.Value{none, is}}, true)
		checkRight(t, "a slot", graph(nil, other, object, thing(api.TBox, none, is)), true)
		for _, v := range falseObjects(kind, 2, 3) {
			checkRight(t, "a root "+nameOf(v), api.Graph{Things: []api.Thing{other, object, other}, Roots: []api.Value{is, v}}, false)
			for _, k := range kinds {
				checkRight(t, "a slot "+nameOf(v)+" of kind "+nameOf(k), graph(nil, other, object, thing(k, is, none, v)), false)
			}
			checkRight(t, "the first slot "+nameOf(v), graph(nil, table(0, 0, v), object, other), false)
			checkRight(t, "a weak value "+nameOf(v), graph(nil, table(api.WeakBoth, 0, none, is, v), object, other), false)
			checkRight(t, "a weak key "+nameOf(v), graph(nil, table(api.WeakBoth, 0, none, v, is), object, other), false)
		}
	}
}

func TestP11_1RightOfNoObjects(t *testing.T) {
	for _, kind := range kinds {
		for _, n := range []int64{-1, 0, 1} {
			checkRight(t, "a root", api.Graph{Roots: []api.Value{{T: kind, N: n}}}, false)
		}
	}
}
