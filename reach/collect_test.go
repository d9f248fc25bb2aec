package reach_test

import (
	"math"
	"reflect"
	"slices"
	"testing"

	"heirloom/api"
	"heirloom/reach"
)

func at(h int, slots ...int) []api.Entry {
	var l []api.Entry
	for _, s := range slots {
		l = append(l, api.Entry{H: h, Slot: s})
	}
	return l
}

func TestP11_2Example(t *testing.T) {
	g := graph([]int{1}, thing(api.TBox, tab(2)), table(api.WeakKeys, 0, none, tab(3), tab(3)), table(0, 0, none))
	checkStrong(t, "the example", g, []int{1, 2})
	checkFound(t, "the example", g, []int{1, 2}, nil, at(2, 2))
}

func TestP11_2CollectOfNothing(t *testing.T) {
	checkFound(t, "no objects", api.Graph{}, nil, nil, nil)
	checkFound(t, "no roots", graph(nil, table(api.WeakBoth, 0, tab(1), tab(1), tab(1))), nil, nil, nil)
	checkFound(t, "roots that are none", api.Graph{Roots: []api.Value{tab(1), tab(0), none}}, nil, nil, nil)
	checkFound(t, "no slots", graph([]int{1}, table(api.WeakBoth, 0)), []int{1}, nil, nil)
}

func TestP11_2CollectLive(t *testing.T) {
	g := graph([]int{2, 2}, thing(api.TStr), thing(api.TFunc, none, box(3), str(1)), thing(api.TBox, tab(4)), table(0, 0, tab(4), none), table(0, 0, fun(2)), thing(api.TThread))
	checkFound(t, "no weak tables", g, []int{1, 2, 3, 4}, nil, nil)
}

func TestP11_2PendingOrder(t *testing.T) {
	g := graph(nil, marked(3), marked(0), marked(9), marked(1), marked(5))
	checkFound(t, "falling", g, []int{1, 3, 4, 5}, []int{3, 5, 1, 4}, nil)
	g = graph(nil, marked(2), marked(7), marked(2), marked(2), marked(7))
	checkFound(t, "alike: the greater handle first", g, []int{1, 2, 3, 4, 5}, []int{5, 2, 4, 3, 1}, nil)
	g = graph(nil, marked(math.MaxInt), marked(math.MinInt), marked(-1), marked(1))
	checkFound(t, "edges", g, []int{1, 4}, []int{1, 4}, nil)
	g = graph(nil, marked(1), marked(math.MaxInt), marked(math.MaxInt))
	checkFound(t, "greatest", g, []int{1, 2, 3}, []int{3, 2, 1}, nil)
}

func TestP11_2PendingNeeded(t *testing.T) {
	g := graph([]int{1}, marked(1, none, tab(2)), marked(2), marked(3))
	checkFound(t, "those that are needed do not wait", g, []int{1, 2, 3}, []int{3}, nil)
	g = graph(nil, marked(1, none, tab(2)), marked(2), thing(api.TBox), marked(3, none, box(3)))
	checkFound(t, "needed by one that is pending", g, []int{1, 2, 3, 4}, []int{4, 2, 1}, nil)
	g = graph(nil, marked(1, tab(1), tab(2)), table(0, 0, tab(1)))
	checkFound(t, "a ring", g, []int{1, 2}, []int{1}, nil)
	g = graph([]int{1}, table(api.WeakKeys, 0, none, tab(2), tab(3)), table(0, 0), marked(1))
	checkFound(t, "needed by a pair that is lost", g, []int{1, 3}, []int{3}, at(1, 2))
}

// A Fin counts of every object, of such as Right refuses too.
func TestP11_2PendingKinds(t *testing.T) {
	for _, kind := range append(slices.Clone(kinds), -1, 0, 3, 10, 99) {
		g := graph(nil, thing(api.TBox), api.Thing{Kind: kind, Fin: 4, Slots: []api.Value{box(1)}}, marked(5))
		checkFound(t, "kind "+nameOf(kind), g, []int{1, 2, 3}, []int{3, 2}, nil)
	}
}

func TestP11_2ClearedWeakValues(t *testing.T) {
	const w = api.WeakValues
	rows := []struct {
		name  string
		t     api.Thing
		roots []int
		live  []int
		slots []int
	}{
		{"array", table(w, 3, none, tab(2), str(4), fun(3)), nil, []int{1, 4}, []int{1, 3}},
		{"array, one needed", table(w, 3, none, tab(2), str(4), fun(3)), []int{3}, []int{1, 3, 4}, []int{1}},
		{"pairs", table(w, 0, none, whole(1), tab(2), whole(2), fun(3), whole(3), whole(2)), nil, []int{1}, []int{2, 4}},
		{"keys stay", table(w, 0, none, tab(2), fun(3)), nil, []int{1, 2}, []int{2}},
		{"value is its key", table(w, 0, none, tab(2), tab(2)), nil, []int{1, 2}, nil},
		{"value is the key of another pair", table(w, 1, none, tab(2), whole(1), tab(2), tab(2), whole(1)), nil, []int{1, 2}, nil},
		{"value is the table itself", table(w, 1, none, tab(1), whole(1), tab(1)), nil, []int{1}, nil},
		{"metatable", table(w, 1, tab(2), tab(2), whole(1), tab(2)), nil, []int{1, 2}, nil},
		{"incomplete pair", table(w, 1, none, whole(1), tab(2)), nil, []int{1}, []int{2}},
		{"incomplete pair behind pairs", table(w, 1, none, tab(2), whole(1), fun(3), tab(2)), nil, []int{1}, []int{1, 3, 4}},
		{"array at all slots", table(w, 2, none, tab(2), fun(3)), nil, []int{1}, []int{1, 2}},
		{"array beyond", table(w, 3, none, tab(2), fun(3)), nil, []int{1}, []int{1, 2}},
		{"array far beyond", table(w, math.MaxInt, none, tab(2), fun(3)), nil, []int{1}, []int{1, 2}},
		{"array below 0", table(w, math.MinInt, none, tab(2), fun(3)), nil, []int{1, 2}, []int{2}},
		{"no objects", table(w, 2, none, tab(3), fun(2), whole(1), str(2), whole(2), box(9)), nil, []int{1}, nil},
		{"texts stay", table(w, 1, none, str(4), whole(1), str(5)), nil, []int{1, 4, 5}, nil},
	}
	for _, r := range rows {
		checkFound(t, r.name, around(r.t, r.roots...), r.live, nil, at(1, r.slots...))
	}
}

func TestP11_2ClearedWeakKeys(t *testing.T) {
	const w = api.WeakKeys
	rows := []struct {
		name  string
		t     api.Thing
		roots []int
		live  []int
		slots []int
	}{
		{"key not live", table(w, 0, none, tab(2), whole(1)), nil, []int{1}, []int{2}},
		{"key not live, value nil", table(w, 0, none, tab(2), none), nil, []int{1}, []int{2}},
		{"key not live, value a text", table(w, 0, none, tab(2), str(4)), nil, []int{1}, []int{2}},
		{"key not live, value live", table(w, 0, none, tab(2), fun(3)), []int{3}, []int{1, 3}, []int{2}},
		{"key live", table(w, 0, none, tab(2), fun(3)), []int{2}, []int{1, 2, 3}, nil},
		{"key a text", table(w, 0, none, str(4), fun(3)), nil, []int{1, 3, 4}, nil},
		{"key no object", table(w, 0, none, fun(2), fun(3), tab(0), whole(1)), nil, []int{1, 3}, nil},
		{"array stays", table(w, 2, none, tab(2), fun(3)), nil, []int{1, 2, 3}, nil},
		{"incomplete pair stays", table(w, 0, none, fun(3), whole(1), tab(2)), nil, []int{1, 2}, []int{2}},
		{"two of three", table(w, 1, none, whole(1), tab(2), whole(1), whole(2), str(4), fun(3), whole(2)), nil, []int{1, 4}, []int{3, 7}},
		{"key is the value of a number", table(w, 1, none, whole(1), tab(2), whole(1), whole(2), tab(2), fun(3), whole(2)), nil, []int{1, 2}, []int{7}},
		{"key and value of each other", table(w, 0, none, tab(2), fun(3), fun(3), tab(2)), nil, []int{1}, []int{2, 4}},
		{"array beyond", table(w, math.MaxInt, none, tab(2), fun(3)), nil, []int{1, 2, 3}, nil},
		{"array below 0", table(w, -1, none, tab(2), fun(3)), nil, []int{1}, []int{2}},
	}
	for _, r := range rows {
		checkFound(t, r.name, around(r.t, r.roots...), r.live, nil, at(1, r.slots...))
	}
}

func TestP11_2ClearedWeakBoth(t *testing.T) {
	const w = api.WeakBoth
	rows := []struct {
		name  string
		t     api.Thing
		roots []int
		live  []int
		slots []int
	}{
		{"neither live: once", table(w, 0, none, tab(2), fun(3)), nil, []int{1}, []int{2}},
		{"key live", table(w, 0, none, tab(2), fun(3)), []int{2}, []int{1, 2}, []int{2}},
		{"value live", table(w, 0, none, tab(2), fun(3)), []int{3}, []int{1, 3}, []int{2}},
		{"both live", table(w, 0, none, tab(2), fun(3)), []int{2, 3}, []int{1, 2, 3}, nil},
		{"key a text", table(w, 0, none, str(4), fun(3)), nil, []int{1, 4}, []int{2}},
		{"value a text", table(w, 0, none, tab(2), str(4)), nil, []int{1, 4}, []int{2}},
		{"texts", table(w, 1, none, str(4), str(4), str(5)), nil, []int{1, 4, 5}, nil},
		{"value a number", table(w, 0, none, tab(2), whole(1)), nil, []int{1}, []int{2}},
		{"array and incomplete pair", table(w, 1, none, tab(2), whole(1), whole(2), fun(3)), nil, []int{1}, []int{1, 4}},
		{"metatable", table(w, 0, tab(2), tab(2), tab(2)), nil, []int{1, 2}, nil},
	}
	for _, r := range rows {
		checkFound(t, r.name, around(r.t, r.roots...), r.live, nil, at(1, r.slots...))
	}
}

// What holds weakly is a table with a Weak that there is; what is not live has nothing cleared.
func TestP11_2ClearedOfOthers(t *testing.T) {
	for _, kind := range kinds {
		for weak := -1; weak <= 7; weak++ {
			if kind == api.TTable && weak >= 1 && weak <= 3 {
				continue
			}
			holder := api.Thing{Kind: kind, Weak: weak, Array: 1, Slots: []api.Value{none, tab(2), fun(3), str(4)}}
			checkFound(t, "kind "+nameOf(kind)+", weak "+nameOf(weak), around(holder), []int{1, 2, 3, 4}, nil, nil)
		}
	}
	for weak := 1; weak <= 3; weak++ {
		g := graph([]int{2}, table(weak, 1, none, tab(3), tab(3), tab(3)), table(0, 0), table(0, 0))
		checkFound(t, "not live", g, []int{2}, nil, nil)
	}
}

func TestP11_2ClearedOrder(t *testing.T) {
	dead := []api.Value{none, tab(5), tab(5), tab(5), whole(1), tab(5), tab(5), whole(2)}
	g := graph([]int{4, 3, 1}, table(3, 1, dead...), table(3, 1, dead...), table(1, 1, none, none, tab(5), none), table(2, 7, dead...), table(0, 0))
	want := slices.Concat(at(1, 1, 3, 5, 7), at(3, 3), at(4, 1, 2, 3, 5, 6))
	checkFound(t, "by handle, then slot", g, []int{1, 3, 4}, nil, want)
}

// The tables 1 and 2 are alike; the first one is needed first, the second one by what is pending alone.
func twins(weak int, slots ...api.Value) api.Graph {
	return graph([]int{1}, table(weak, 1, slots...), table(weak, 1, slots...), marked(1, none, tab(2), tab(4)), table(0, 0), table(0, 0))
}

func TestP11_2ClearedFirst(t *testing.T) {
	all := []int{1, 2, 3, 4}
	g := twins(api.WeakValues, none, tab(4), whole(1), tab(4), whole(2), tab(3), whole(3), tab(5))
	checkFound(t, "values", g, all, []int{3}, slices.Concat(at(1, 1, 3, 5, 7), at(2, 7)))
	g = twins(api.WeakBoth, none, tab(4), whole(1), tab(4), tab(4), whole(1), tab(5), whole(1))
	checkFound(t, "both", g, all, []int{3}, slices.Concat(at(1, 1, 3, 7), at(2, 7)))
	g = twins(api.WeakKeys, none, none, tab(4), whole(1), tab(4), tab(4), tab(5), whole(1))
	checkFound(t, "keys", g, all, []int{3}, slices.Concat(at(1, 7), at(2, 7)))
	g = twins(api.WeakBoth, none, none, tab(1), tab(1), whole(1), tab(2), tab(2), whole(2))
	checkFound(t, "the tables themselves", g, all, []int{3}, at(1, 5))
}

// A key that is pending holds its value; so may a value of a pair lead to what another pair waits for.
func TestP11_2PendingKeys(t *testing.T) {
	g := graph([]int{1}, table(api.WeakKeys, 0, none, tab(2), tab(3), tab(3), tab(4)), marked(1), table(0, 0), table(0, 0))
	checkFound(t, "a pending key", g, []int{1, 2, 3, 4}, []int{2}, nil)
	g = graph([]int{1}, table(api.WeakKeys, 0, none, tab(2), tab(3)), marked(1), marked(2))
	checkFound(t, "a pending key and value", g, []int{1, 2, 3}, []int{3, 2}, nil)
	g = graph([]int{1}, table(api.WeakKeys, 0, none, tab(2), tab(3)), table(0, 0), marked(2))
	checkFound(t, "a pending value", g, []int{1, 3}, []int{3}, at(1, 2))
	weak := marked(1, none, tab(2), tab(3))
	weak.Weak = api.WeakKeys
	g = graph(nil, weak, table(0, 0), table(0, 0))
	checkFound(t, "a pending weak table", g, []int{1}, []int{1}, at(1, 2))
}

func copyOf(g api.Graph) api.Graph {
	c := api.Graph{Things: slices.Clone(g.Things), Roots: slices.Clone(g.Roots)}
	for i := range c.Things {
		c.Things[i].Slots = slices.Clone(c.Things[i].Slots)
	}
	return c
}

// Nothing that is handed in is changed, and nothing of an answer is kept.
func TestP11_2OwnMemory(t *testing.T) {
	g := twins(api.WeakBoth, none, tab(4), whole(1), tab(4), tab(4), whole(1), tab(5), whole(1))
	g.Things = append(g.Things, marked(8), marked(9))
	ahead := copyOf(g)
	more := []int{3, 2, 2, 1}
	one, two := reach.Collect(g), reach.Collect(g)
	if !reflect.DeepEqual(one, two) {
		t.Fatalf("the same twice: %v, %v", one, two)
	}
	first := reach.Strong(g, more...)
	for i := range first {
		first[i] = !first[i]
	}
	clear(one.Live)
	clear(one.Pending)
	clear(one.Cleared)
	if again := reach.Collect(g); !reflect.DeepEqual(again, two) {
		t.Errorf("behind a change of an answer: %v, want %v", again, two)
	}
	reach.Right(g)
	if !reflect.DeepEqual(g, ahead) || !slices.Equal(more, []int{3, 2, 2, 1}) {
		t.Error("what was handed in has changed")
	}
}
