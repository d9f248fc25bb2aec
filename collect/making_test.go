package collect_test

import (
	"math"
	"reflect"
	"slices"
	"testing"

	"heirloom/ages"
	"heirloom/api"
	"heirloom/collect"
)

// All kinds that an object may have, all colours, ages and weaknesses; handles that are no object's as a rule.
var (
	kinds      = []int{api.TStr, api.TTable, api.TFunc, api.TBox, api.TThread, api.TProto}
	allColours = []int{api.White0, api.White1, api.Grey, api.Black}
	allAges    = []int{api.New, api.Survival, api.Old0, api.Old1, api.Old, api.Touched1, api.Touched2}
	noHandles  = []int{math.MinInt, -1 << 32, -2, -1, 0, 99, 1<<32 + 1, math.MaxInt}
	noModes    = []int{math.MinInt, -1, 2, 3, 1 << 32, math.MaxInt}
)

var none = api.Value{}

// leading is a value that leads to the object with this kind and handle.
func leading(kind, h int) api.Value { return api.Value{T: kind, N: int64(h)} }

func str(h int) api.Value   { return leading(api.TStr, h) }
func tab(h int) api.Value   { return leading(api.TTable, h) }
func fun(h int) api.Value   { return leading(api.TFunc, h) }
func box(h int) api.Value   { return leading(api.TBox, h) }
func whole(n int) api.Value { return leading(api.TInt, n) }

// thing makes an object that is no table.
func thing(kind int, slots ...api.Value) api.Thing { return api.Thing{Kind: kind, Slots: slots} }

// table makes a table that holds nothing weakly; its first slot is the metatable.
func table(slots ...api.Value) api.Thing { return thing(api.TTable, slots...) }

// weak makes a table that holds weakly.
func weak(weak, array int, slots ...api.Value) api.Thing {
	return api.Thing{Kind: api.TTable, Weak: weak, Array: array, Slots: slots}
}

// marked makes a table that is marked for a finaliser.
func marked(fin int, slots ...api.Value) api.Thing {
	return api.Thing{Kind: api.TTable, Fin: fin, Slots: slots}
}

// graph makes a graph with these objects, of which the first one's handle is 1; roots are told by handles.
func graph(roots []int, things ...api.Thing) api.Graph {
	g := api.Graph{Things: things}
	for _, h := range roots {
		g.Roots = append(g.Roots, leading(things[h-1].Kind, h))
	}
	return g
}

// open makes objects of a graph, and a collector for them.
func open(t *testing.T, g api.Graph) (*collect.Mem, *collect.Collector) {
	t.Helper()
	m := collect.NewMem(g)
	if m == nil {
		t.Fatalf("NewMem of %v: nil", g)
	}
	return m, collect.New(m)
}

// openGen is open with a collector by generations.
func openGen(t *testing.T, g api.Graph) (*collect.Mem, *collect.Collector) {
	t.Helper()
	m, c := open(t, g)
	c.SetMode(api.ModeGen)
	return m, c
}

// same tells whether two views are alike, whatever lists without members are.
func same(a, b api.View) bool { return reflect.DeepEqual(copyOfView(a), copyOfView(b)) }

// copyOfView shares nothing with a view; its lists without members are empty, not nil.
func copyOfView(v api.View) api.View {
	v.Grey, v.Again, v.Pending = full(v.Grey), full(v.Again), full(v.Pending)
	seen := []api.Seen{}
	for _, s := range v.Seen {
		s.Thing.Slots = full(s.Thing.Slots)
		seen = append(seen, s)
	}
	v.Seen = seen
	return v
}

func full[T any](l []T) []T { return append([]T{}, l...) }

func copyOf(g api.Graph) api.Graph {
	c := api.Graph{Things: slices.Clone(g.Things), Roots: slices.Clone(g.Roots)}
	for i := range c.Things {
		c.Things[i].Slots = slices.Clone(c.Things[i].Slots)
	}
	return c
}

func checkList[T comparable](t *testing.T, name string, got []T, want ...T) {
	t.Helper()
	if !slices.Equal(got, want) {
		t.Errorf("%s: %v, want %v", name, got, want)
	}
}

func check[T comparable](t *testing.T, name string, got, want T) {
	t.Helper()
	if got != want {
		t.Errorf("%s: %v, want %v", name, got, want)
	}
}

// checkLooks asks an object's colour and age.
func checkLooks(t *testing.T, name string, m *collect.Mem, h, colour, age int) {
	t.Helper()
	if m.Kind(h) == 0 {
		t.Errorf("%s: the object %d is gone", name, h)
	}
	if m.Colour(h) != colour || m.Age(h) != age {
		t.Errorf("%s: the object %d has the colour %d and the age %d, want %d and %d", name, h, m.Colour(h), m.Age(h), colour, age)
	}
}

func checkSlots(t *testing.T, name string, m *collect.Mem, h int, want ...api.Value) {
	t.Helper()
	checkList(t, name+": the slots", m.Thing(h).Slots, want...)
}

// checkRules asks whether a view keeps to the rules of colours and ages.
func checkRules(t *testing.T, name string, c *collect.Collector) {
	t.Helper()
	if l := ages.Audit(c.View()); len(l) > 0 {
		t.Fatalf("%s: %v break the rules in %v", name, l, c.View())
	}
}

// toPhase does units till the phase is this one.
func toPhase(t *testing.T, c *collect.Collector, phase int) {
	t.Helper()
	for range 1000 {
		if c.View().Phase == phase {
			return
		}
		c.Step(1)
	}
	t.Fatalf("the phase %d does not come", phase)
}

// takeAll takes all that are pending.
func takeAll(c *collect.Collector) []int {
	var l []int
	for h, is := c.Take(); is; h, is = c.Take() {
		l = append(l, h)
	}
	return l
}
