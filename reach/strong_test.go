package reach_test

import (
	"math"
	"testing"

	"heirloom/api"
	"heirloom/reach"
)

func TestP11_1StrongOfNothing(t *testing.T) {
	checkStrong(t, "no objects", api.Graph{}, nil)
	checkStrong(t, "no objects, handles", api.Graph{}, nil, 0, 1, -1, math.MaxInt, math.MinInt)
	checkStrong(t, "no objects, a root", api.Graph{Roots: []api.Value{tab(1)}}, nil)
	checkStrong(t, "no roots", graph(nil, table(0, 0, tab(2)), table(0, 0, tab(1))), nil)
	checkStrong(t, "no slots", graph([]int{2}, table(0, 0), table(3, 0), thing(api.TStr)), []int{2})
}

func TestP11_1StrongRoots(t *testing.T) {
	for _, kind := range kinds {
		is := api.Value{T: kind, N: 2}
		things := []api.Thing{table(0, 0, none), thing(kind, tab(1)), table(0, 0, none), table(0, 0, none)}
		checkStrong(t, "a root", api.Graph{Things: things, Roots: []api.Value{none, is}}, []int{1, 2})
		checkStrong(t, "a root, told thrice", api.Graph{Things: things, Roots: []api.Value{is, is, whole(3), is}}, []int{1, 2})
		checkStrong(t, "two roots", api.Graph{Things: things, Roots: []api.Value{tab(4), is}}, []int{1, 2, 4})
		for _, v := range notObjects(kind, 2, 4) {
			checkStrong(t, "a root "+nameOf(v), api.Graph{Things: things, Roots: []api.Value{v}}, nil)
			checkStrong(t, "a root behind "+nameOf(v), api.Graph{Things: things, Roots: []api.Value{v, tab(3)}}, []int{3})
		}
	}
}

func TestP11_1StrongMore(t *testing.T) {
	g := graph([]int{6}, table(0, 0, none), thing(api.TBox, tab(1)), thing(api.TStr), thing(99, tab(1)), thing(api.TFunc, box(2)), thing(api.TThread))
	rows := []struct{ more, want []int }{
		{nil, []int{6}},
		{[]int{6}, []int{6}},
		{[]int{3}, []int{3, 6}},
		{[]int{2}, []int{1, 2, 6}},
		{[]int{1, 2}, []int{1, 2, 6}},
		{[]int{2, 1}, []int{1, 2, 6}},
		{[]int{2, 2}, []int{1, 2, 6}},
		{[]int{5, 4, 3, 2, 1}, []int{1, 2, 3, 4, 5, 6}},
		{[]int{5}, []int{1, 2, 5, 6}},
		{[]int{4}, []int{1, 4, 6}}, // a handle asks for no kind
		{[]int{0, -1, 7, 8, math.MaxInt, math.MinInt, 1 + 1<<32}, []int{6}},
		{[]int{0, 3, 7}, []int{3, 6}},
	}
	for _, r := range rows {
		checkStrong(t, "more "+nameOf(r.more), g, r.want, r.more...)
	}
}

func TestP11_1StrongSlots(t *testing.T) {
	for _, kind := range kinds {
		for weak := -1; weak <= 4; weak++ {
			if kind == api.TTable && weak >= 1 && weak <= 3 {
				continue
			}
			holder := api.Thing{Kind: kind, Weak: weak, Array: 1, Slots: []api.Value{tab(2), whole(9), fun(3), tab(4), box(5), str(6), none, str(7)}}
			g := graph([]int{1}, holder, table(0, 0), thing(api.TFunc), table(0, 0), thing(api.TBox), thing(api.TStr), thing(api.TStr), table(0, 0))
			checkStrong(t, "kind "+nameOf(kind)+", weak "+nameOf(weak), g, []int{1, 2, 3, 4, 5, 6, 7})
		}
		for _, v := range notObjects(kind, 2, 3) {
			for _, k := range kinds {
				g := graph([]int{3}, table(0, 0), thing(kind), thing(k, none, v, v))
				checkStrong(t, "a slot "+nameOf(v), g, []int{3})
			}
		}
	}
}

func TestP11_1StrongRings(t *testing.T) {
	self := table(0, 0, tab(1), tab(1), tab(1))
	checkStrong(t, "one that leads to itself", graph([]int{1}, self), []int{1})
	checkStrong(t, "that one, not needed", graph(nil, self), nil)
	ring := graph([]int{2}, thing(api.TBox, fun(2)), thing(api.TFunc, tab(3)), table(0, 0, none, box(1)), thing(api.TBox, fun(2)))
	checkStrong(t, "a ring", ring, []int{1, 2, 3})
	ring.Roots = nil
	checkStrong(t, "a ring that nobody needs", ring, nil)
	checkStrong(t, "a ring by a handle", ring, []int{1, 2, 3, 4}, 4)
}

// around puts a table, a function and two strings behind the table that is looked at.
func around(t api.Thing, roots ...int) api.Graph {
	return graph(append([]int{1}, roots...), t, table(0, 0), thing(api.TFunc), thing(api.TStr), thing(api.TStr))
}

func TestP11_1StrongWeakKeys(t *testing.T) {
	const w = api.WeakKeys
	rows := []struct {
		name  string
		t     api.Thing
		roots []int
		want  []int
	}{
		{"metatable", table(w, 0, tab(2)), nil, []int{1, 2}},
		{"array", table(w, 3, none, tab(2), fun(3), str(4)), nil, []int{1, 2, 3, 4}},
		{"key not needed", table(w, 0, none, tab(2), fun(3)), nil, []int{1}},
		{"key not needed, text", table(w, 0, none, tab(2), str(4)), nil, []int{1}},
		{"key needed", table(w, 0, none, tab(2), fun(3)), []int{2}, []int{1, 2, 3}},
		{"value needed", table(w, 0, none, tab(2), fun(3)), []int{3}, []int{1, 3}},
		{"key is a text", table(w, 0, none, str(4), fun(3)), nil, []int{1, 3, 4}},
		{"key is a number", table(w, 0, none, whole(2), fun(3)), nil, []int{1, 3}},
		{"key is nil", table(w, 0, none, none, fun(3)), nil, []int{1, 3}},
		{"key is dead", table(w, 0, none, api.Value{T: api.TDead, N: 2}, fun(3)), nil, []int{1, 3}},
		{"key is no object", table(w, 0, none, tab(3), tab(2)), nil, []int{1, 2}},
		{"key is a text that is none", table(w, 0, none, str(2), fun(3)), nil, []int{1, 3}},
		{"key is the table itself", table(w, 0, none, tab(1), fun(3)), nil, []int{1, 3}},
		{"value is the table itself", table(w, 0, none, tab(2), tab(1)), nil, []int{1}},
		{"value is its key", table(w, 0, none, tab(2), tab(2)), nil, []int{1}},
		{"value is nil", table(w, 0, none, tab(2), none), []int{2}, []int{1, 2}},
		{"key is the metatable", table(w, 0, tab(2), tab(2), fun(3)), nil, []int{1, 2, 3}},
		{"key is in the array", table(w, 1, none, tab(2), tab(2), fun(3)), nil, []int{1, 2, 3}},
		{"key is the value of a later pair", table(w, 0, none, tab(2), fun(3), str(4), tab(2)), nil, []int{1, 2, 3, 4}},
		{"key is the value of a pair of its key", table(w, 0, none, tab(2), fun(3), fun(3), tab(2)), nil, []int{1}},
		{"that, with one needed", table(w, 0, none, tab(2), fun(3), fun(3), tab(2)), []int{3}, []int{1, 2, 3}},
		{"incomplete pair", table(w, 0, none, tab(2)), nil, []int{1, 2}},
		{"incomplete pair behind a pair", table(w, 0, none, fun(3), str(4), tab(2)), nil, []int{1, 2}},
		{"incomplete pair behind the array", table(w, 1, none, fun(3), tab(2)), nil, []int{1, 2, 3}},
		{"incomplete pair is another's key", table(w, 0, none, fun(3), str(4), fun(3)), nil, []int{1, 3, 4}},
		{"array at all slots", table(w, 2, none, tab(2), fun(3)), nil, []int{1, 2, 3}},
		{"array beyond", table(w, 3, none, tab(2), fun(3)), nil, []int{1, 2, 3}},
		{"array far beyond", table(w, math.MaxInt, none, tab(2), fun(3)), nil, []int{1, 2, 3}},
		{"array below 0", table(w, -1, none, tab(2), fun(3)), nil, []int{1}},
		{"array far below 0", table(w, math.MinInt, none, tab(2), fun(3)), nil, []int{1}},
		{"array, no slots", table(w, 5), nil, []int{1}},
		{"array, one slot", table(w, 5, tab(2)), nil, []int{1, 2}},
	}
	for _, r := range rows {
		checkStrong(t, r.name, around(r.t, r.roots...), r.want)
	}
	checkStrong(t, "key needed by a handle", around(table(w, 0, none, tab(2), fun(3))), []int{1, 2, 3}, 2)
	checkStrong(t, "not of a function", around(api.Thing{Kind: api.TFunc, Weak: w, Slots: []api.Value{none, tab(2), fun(3)}}), []int{1, 2, 3})
}

func TestP11_1StrongWeakValues(t *testing.T) {
	const w = api.WeakValues
	rows := []struct {
		name string
		t    api.Thing
		want []int
	}{
		{"metatable", table(w, 0, tab(2)), []int{1, 2}},
		{"array", table(w, 3, none, tab(2), fun(3), str(4)), []int{1, 4}},
		{"keys", table(w, 0, none, tab(2), none, fun(3), none, str(4), none), []int{1, 2, 3, 4}},
		{"values", table(w, 0, none, whole(1), tab(2), whole(2), fun(3)), []int{1}},
		{"text as a value", table(w, 0, none, tab(2), str(4)), []int{1, 2, 4}},
		{"key and value", table(w, 0, none, tab(2), fun(3)), []int{1, 2}},
		{"value is its key", table(w, 0, none, tab(2), tab(2)), []int{1, 2}},
		{"incomplete pair", table(w, 0, none, tab(2)), []int{1}},
		{"incomplete pair, text", table(w, 0, none, fun(3), tab(2), str(5)), []int{1, 3, 5}},
		{"incomplete pair behind the array", table(w, 1, none, fun(3), tab(2)), []int{1}},
		{"array beyond", table(w, 9, none, tab(2), fun(3)), []int{1}},
		{"array below 0", table(w, -9, none, tab(2), fun(3)), []int{1, 2}},
		{"text that is none", table(w, 1, none, str(3), whole(1), str(2)), []int{1}},
		{"no slots", table(w, 0), []int{1}},
	}
	for _, r := range rows {
		checkStrong(t, r.name, around(r.t), r.want)
	}
	checkStrong(t, "not of a box", around(api.Thing{Kind: api.TBox, Weak: w, Slots: []api.Value{none, tab(2), fun(3)}}), []int{1, 2, 3})
}

func TestP11_1StrongWeakBoth(t *testing.T) {
	const w = api.WeakBoth
	rows := []struct {
		name string
		t    api.Thing
		want []int
	}{
		{"metatable", table(w, 0, tab(2)), []int{1, 2}},
		{"array", table(w, 3, none, tab(2), fun(3), str(4)), []int{1, 4}},
		{"keys", table(w, 0, none, tab(2), none, fun(3), none, str(4), none), []int{1, 4}},
		{"values", table(w, 0, none, whole(1), tab(2), whole(2), fun(3)), []int{1}},
		{"text as a value", table(w, 0, none, tab(2), str(4)), []int{1, 4}},
		{"text as a key", table(w, 0, none, str(4), tab(2)), []int{1, 4}},
		{"texts", table(w, 1, none, str(5), str(4), str(5)), []int{1, 4, 5}},
		{"incomplete pair", table(w, 0, none, tab(2)), []int{1}},
		{"incomplete pair, text", table(w, 0, none, str(4)), []int{1, 4}},
		{"metatable that is a key too", table(w, 0, tab(2), tab(2), fun(3)), []int{1, 2}},
		{"no slots", table(w, 0), []int{1}},
	}
	for _, r := range rows {
		checkStrong(t, r.name, around(r.t), r.want)
	}
	checkStrong(t, "not of a thread", around(api.Thing{Kind: api.TThread, Weak: w, Slots: []api.Value{none, tab(2), fun(3)}}), []int{1, 2, 3})
}

// chain makes n tables with WeakKeys that are roots, each with one pair: its value is the key of the next table's pair, or, falling, of the one ahead.
func chain(n int, falling bool) api.Graph {
	g := api.Graph{}
	for i := range n {
		at := i
		if falling {
			at = n - 1 - i
		}
		g.Things = append(g.Things, table(api.WeakKeys, 0, none, tab(int64(n+1+at)), tab(int64(n+2+at))))
		g.Roots = append(g.Roots, tab(int64(i+1)))
	}
	for range n + 1 {
		g.Things = append(g.Things, table(0, 0))
	}
	return g
}

func TestP11_1StrongRowsOfPairs(t *testing.T) {
	for _, falling := range []bool{false, true} {
		for _, n := range []int{1, 2, 3, 10} {
			g := chain(n, falling)
			for from := n + 1; from <= 2*n+1; from++ {
				l := reach.Strong(g, from)
				for h := 1; h <= 2*n+1; h++ {
					if want := h <= n || h >= from; l[h-1] != want {
						t.Errorf("%d tables, falling %v, from %d: needed of %d is %v", n, falling, from, h, l[h-1])
					}
				}
			}
			checkFound(t, "a row", g, handles(append(trues(n), make([]bool, n+1)...)), nil, rowCleared(n))
		}
	}
}

func trues(n int) []bool {
	l := make([]bool, n)
	for i := range l {
		l[i] = true
	}
	return l
}

func rowCleared(n int) []api.Entry {
	var l []api.Entry
	for i := range n {
		l = append(l, api.Entry{H: i + 1, Slot: 2})
	}
	return l
}

// Rows and ways of any length end soon, and need no more depth than short ones.
func TestP11_1StrongLong(t *testing.T) {
	const n = 100000
	for _, falling := range []bool{false, true} {
		l := reach.Strong(chain(n, falling), n+1)
		if len(handles(l)) != 2*n+1 {
			t.Errorf("a row of pairs: %d are needed, want %d", len(handles(l)), 2*n+1)
		}
	}
	long := api.Graph{Roots: []api.Value{box(1)}}
	for i := range n {
		long.Things = append(long.Things, thing(api.TBox, box(int64(i+2))))
	}
	if l := reach.Strong(long); len(handles(l)) != n {
		t.Errorf("a way: %d are needed, want %d", len(handles(l)), n)
	}
	wide := graph([]int{1}, table(api.WeakKeys, 0, none), table(0, 0))
	for range n {
		wide.Things[0].Slots = append(wide.Things[0].Slots, tab(2), tab(1))
	}
	if f := reach.Collect(wide); len(f.Cleared) != n || len(handles(f.Live)) != 1 {
		t.Errorf("a wide table: %d are cleared, want %d", len(f.Cleared), n)
	}
}
