package reach_test

import (
	"fmt"
	"math"
	"slices"
	"testing"

	"heirloom/api"
	"heirloom/reach"
)

// All kinds that an object may have.
var kinds = []int{api.TStr, api.TTable, api.TFunc, api.TBox, api.TThread, api.TProto}

var none = api.Value{}

func str(h int64) api.Value   { return api.Value{T: api.TStr, N: h} }
func tab(h int64) api.Value   { return api.Value{T: api.TTable, N: h} }
func fun(h int64) api.Value   { return api.Value{T: api.TFunc, N: h} }
func box(h int64) api.Value   { return api.Value{T: api.TBox, N: h} }
func whole(n int64) api.Value { return api.Value{T: api.TInt, N: n} }

// thing makes an object that is no table.
func thing(kind int, slots ...api.Value) api.Thing { return api.Thing{Kind: kind, Slots: slots} }

// table makes a table: its first slot is the metatable.
func table(weak, array int, slots ...api.Value) api.Thing {
	return api.Thing{Kind: api.TTable, Weak: weak, Array: array, Slots: slots}
}

// marked makes a table without slots that is marked for a finaliser.
func marked(fin int, slots ...api.Value) api.Thing {
	return api.Thing{Kind: api.TTable, Fin: fin, Slots: slots}
}

// graph makes a graph with these objects, of which the first one's handle is 1; roots are told by handles.
func graph(roots []int, things ...api.Thing) api.Graph {
	g := api.Graph{Things: things}
	for _, h := range roots {
		g.Roots = append(g.Roots, api.Value{T: things[h-1].Kind, N: int64(h)})
	}
	return g
}

// handles lists which objects are told.
func handles(l []bool) []int {
	var hs []int
	for i, is := range l {
		if is {
			hs = append(hs, i+1)
		}
	}
	return hs
}

func checkStrong(t *testing.T, name string, g api.Graph, want []int, more ...int) {
	t.Helper()
	got := reach.Strong(g, more...)
	if len(got) != len(g.Things) {
		t.Fatalf("%s: Strong tells of %d objects, there are %d", name, len(got), len(g.Things))
	}
	if !slices.Equal(handles(got), want) {
		t.Errorf("%s: needed are %v, want %v", name, handles(got), want)
	}
}

func checkFound(t *testing.T, name string, g api.Graph, live, pending []int, cleared []api.Entry) {
	t.Helper()
	f := reach.Collect(g)
	if len(f.Live) != len(g.Things) {
		t.Fatalf("%s: Collect tells of %d objects, there are %d", name, len(f.Live), len(g.Things))
	}
	if !slices.Equal(handles(f.Live), live) {
		t.Errorf("%s: live are %v, want %v", name, handles(f.Live), live)
	}
	if !slices.Equal(f.Pending, pending) {
		t.Errorf("%s: pending are %v, want %v", name, f.Pending, pending)
	}
	if !slices.Equal(f.Cleared, cleared) {
		t.Errorf("%s: cleared are %v, want %v", name, f.Cleared, cleared)
	}
}

// notObjects are values that are no objects of a graph whose object h has this kind and that has n objects.
func notObjects(kind int, h, n int64) []api.Value {
	l := []api.Value{none, {T: api.TBool, N: h}, whole(h), {T: api.TFloat, N: h}, {T: api.TNative, N: h}, {T: api.TDead, N: h}, {T: -1, N: h}, {T: 12, N: h}, {T: math.MaxInt, N: h}, {T: math.MinInt, N: h}}
	return append(l, falseObjects(kind, h, n)...)
}

// falseObjects are those of them that have an object's type.
func falseObjects(kind int, h, n int64) []api.Value {
	var l []api.Value
	for _, k := range kinds {
		if k != kind {
			l = append(l, api.Value{T: k, N: h})
		}
	}
	for _, x := range []int64{0, -1, -h, n + 1, n + 2, math.MaxInt64, math.MinInt64, h + 1<<32} {
		l = append(l, api.Value{T: kind, N: x})
	}
	return l
}

func nameOf(v any) string { return fmt.Sprintf("%v", v) }
