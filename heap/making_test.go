package heap_test

import (
	"math"
	"reflect"
	"slices"
	"testing"

	"heirloom/ages"
	"heirloom/api"
	"heirloom/heap"
	"heirloom/object"
)

// How many cells objects take: a table without slots but its metatable, and what each slot, or node, is more; a string of some bytes.
const (
	tableCells  = 6
	slotCells   = 2
	nodeCells   = 4
	boxCells    = 4
	headAndSize = 3
)

func textCells(n int) int { return headAndSize + (n+7)/8 }

var none = api.Value{}

// The kinds that an object may have.
var kinds = []int{api.TStr, api.TTable, api.TFunc, api.TBox, api.TThread, api.TProto}

func whole(n int) api.Value     { return api.Value{T: api.TInt, N: int64(n)} }
func float(f float64) api.Value { return api.Value{T: api.TFloat, N: int64(math.Float64bits(f))} }
func leading(kind, n int) api.Value {
	return api.Value{T: kind, N: int64(n)}
}

var (
	yes      = api.Value{T: api.TBool, N: 1}
	noNumber = api.Value{T: api.TFloat, N: 0x7ff8000000000001}
	dead     = api.Value{T: api.TDead, N: 1} // a key whose object is gone: right, but not there
)

// plain are values that are no objects', and right.
var plain = []api.Value{none, {T: api.TBool}, yes, whole(0), whole(7), whole(math.MinInt64), float(1.5), float(math.Inf(1)), noNumber, {T: api.TNative}, {T: api.TNative, N: 255}}

// never are values that are never there, whatever objects are.
var never = []api.Value{
	{T: -1}, {T: 12}, {T: 12, N: 1}, {T: math.MinInt}, {T: math.MaxInt}, {T: 1<<32 + api.TTable, N: 1},
	{T: api.TNil, N: 1}, {T: api.TBool, N: 2}, {T: api.TBool, N: -1}, {T: api.TFloat, N: 0x7ff8000000000000}, {T: api.TFloat, N: -1},
	{T: api.TNative, N: -1}, {T: api.TNative, N: 256},
	dead, {T: api.TDead, N: 2}, {T: api.TDead, N: api.MaxCells}, {T: api.TDead}, {T: api.TDead, N: api.MaxCells + 1}, {T: api.TDead, N: -1},
	{T: api.TStr}, {T: api.TTable}, {T: api.TFunc}, {T: api.TBox}, {T: api.TThread}, {T: api.TProto},
	{T: api.TTable, N: -1}, {T: api.TTable, N: math.MinInt64}, {T: api.TTable, N: math.MaxInt64}, {T: api.TStr, N: api.MaxCells + 1},
	{T: api.TTable, N: 1<<32 + 1}, {T: api.TStr, N: 1<<32 + 2}, {T: api.TThread, N: 9999}, {T: api.TProto, N: api.MaxCells},
}

func open(t *testing.T, size int) *heap.Heap {
	t.Helper()
	h, err := heap.New(size)
	if err != api.OK || h == nil {
		t.Fatalf("New(%d): %v, %v", size, h, err)
	}
	return h
}

// one takes an answer that must be none of an error.
func one(t *testing.T) func(v api.Value, err api.Errno) api.Value {
	return func(v api.Value, err api.Errno) api.Value {
		t.Helper()
		if err != api.OK {
			t.Fatal(err)
		}
		return v
	}
}

func check[T comparable](t *testing.T, name string, got, want T) {
	t.Helper()
	if got != want {
		t.Errorf("%s: %v, want %v", name, got, want)
	}
}

func checkList[T comparable](t *testing.T, name string, got []T, want ...T) {
	t.Helper()
	if !slices.Equal(got, want) {
		t.Errorf("%s: %v, want %v", name, got, want)
	}
}

// checkAnswer asks for a value and an error; with an error the value is nil.
func checkAnswer(t *testing.T, name string, v api.Value, err api.Errno, wantV api.Value, wantErr api.Errno) {
	t.Helper()
	if v != wantV || err != wantErr {
		t.Errorf("%s: %v, %v, want %v, %v", name, v, err, wantV, wantErr)
	}
}

// checkRefused asks for an error, and nil.
func checkRefused(t *testing.T, name string, v api.Value, err, want api.Errno) {
	t.Helper()
	checkAnswer(t, name, v, err, none, want)
}

// checkObject asks what an object is, but for its colour and age.
func checkObject(t *testing.T, name string, h *heap.Heap, v api.Value, want api.Object) {
	t.Helper()
	got, is := h.Object(v)
	if !is {
		t.Fatalf("%s: %v is not there", name, v)
	}
	got.Head.Colour, got.Head.Age = want.Head.Colour, want.Head.Age
	if !sameObject(got, want) {
		t.Errorf("%s: %v, want %v", name, got, want)
	}
}

func checkGone(t *testing.T, name string, h *heap.Heap, l ...api.Value) {
	t.Helper()
	for _, v := range l {
		if o, is := h.Object(v); is || !sameObject(o, api.Object{}) {
			t.Errorf("%s: %v is there still: %v", name, v, o)
		}
	}
}

func checkThere(t *testing.T, name string, h *heap.Heap, l ...api.Value) {
	t.Helper()
	for _, v := range l {
		if _, is := h.Object(v); !is {
			t.Errorf("%s: %v is gone", name, v)
		}
	}
}

// checkGet asks for a key's value.
func checkGet(t *testing.T, name string, h *heap.Heap, table, k, want api.Value) {
	t.Helper()
	v, err := h.Get(table, k)
	checkAnswer(t, name, v, err, want, api.OK)
}

func checkCounts(t *testing.T, name string, h *heap.Heap, made, marked, emergencies int) {
	t.Helper()
	a, b, c := h.Counts()
	check(t, name+": Counts", [3]int{a, b, c}, [3]int{made, marked, emergencies})
}

func checkFree(t *testing.T, name string, h *heap.Heap, live, top, gap int) {
	t.Helper()
	a, b, c := h.Free()
	check(t, name+": Free", [3]int{a, b, c}, [3]int{live, top, gap})
}

// checkRules asks for P14.9 and P14.10.
func checkRules(t *testing.T, name string, h *heap.Heap) {
	t.Helper()
	v := h.View()
	if l := ages.Audit(v); len(l) > 0 {
		t.Fatalf("%s: %v break the rules in %v", name, l, v)
	}
	all := 0
	for _, s := range v.Seen {
		o, is := h.Object(leading(s.Thing.Kind, s.H))
		if !is || object.Layout(o) != api.OK {
			t.Fatalf("%s: %d is %v: %v", name, s.H, o, object.Layout(o))
		}
		if n := object.Size(o.Head); n != h.Arena.Len(s.H) {
			t.Fatalf("%s: %d has %d cells, and its block %d", name, s.H, n, h.Arena.Len(s.H))
		}
		all += object.Size(o.Head)
	}
	if live, _, _ := h.Free(); live != all {
		t.Fatalf("%s: %d cells are live, and all objects have %d", name, live, all)
	}
}

func head(t *testing.T, h *heap.Heap, v api.Value) api.Head {
	t.Helper()
	o, is := h.Object(v)
	if !is {
		t.Fatalf("%v is gone", v)
	}
	return o.Head
}

// checkLooks asks for an object's colour and age.
func checkLooks(t *testing.T, name string, h *heap.Heap, v api.Value, colour, age int) {
	t.Helper()
	at := head(t, h, v)
	check(t, name+": colour and age", [2]int{at.Colour, at.Age}, [2]int{colour, age})
}

// toPhase does units till the phase is this one.
func toPhase(t *testing.T, h *heap.Heap, phase int) {
	t.Helper()
	for range 10000 {
		if h.View().Phase == phase {
			return
		}
		h.Step(1)
	}
	t.Fatalf("the phase %d does not come", phase)
}

// fill makes boxes that nobody holds till there are just so many cells that are free in one piece, or fewer than a box has.
func fill(t *testing.T, h *heap.Heap, left int) {
	t.Helper()
	for {
		_, _, gap := h.Free()
		if gap-left < boxCells {
			return
		}
		one(t)(h.Box(none))
	}
}

// keysOf goes over a table.
func keysOf(t *testing.T, h *heap.Heap, table api.Value) []api.Value {
	t.Helper()
	var l []api.Value
	k, v, err := h.Next(table, none)
	for ; k != none && err == api.OK; k, v, err = h.Next(table, k) {
		checkGet(t, "Get of what Next tells", h, table, k, v)
		l = append(l, k)
		if len(l) > api.MaxParts {
			t.Fatal("keys without end")
		}
	}
	check(t, "Next", err, api.OK)
	return l
}

func sameObject(a, b api.Object) bool {
	return a.Head == b.Head && slices.Equal(a.Aux, b.Aux) && slices.Equal(a.Slots, b.Slots)
}

// same tells whether two answers are alike, whatever lists without members are.
func same(a, b []any) bool { return reflect.DeepEqual(filled(a), filled(b)) }

func filled(l []any) []any {
	l = slices.Clone(l)
	for i, x := range l {
		switch x := x.(type) {
		case api.View:
			l[i] = filledView(x)
		case api.Object:
			x.Aux, x.Slots = append([]int64{}, x.Aux...), append([]api.Value{}, x.Slots...)
			l[i] = x
		case []api.Value:
			l[i] = append([]api.Value{}, x...)
		}
	}
	return l
}

func filledView(v api.View) api.View {
	v.Grey, v.Again, v.Pending = append([]int{}, v.Grey...), append([]int{}, v.Again...), append([]int{}, v.Pending...)
	seen := []api.Seen{}
	for _, s := range v.Seen {
		s.Thing.Slots = append([]api.Value{}, s.Thing.Slots...)
		seen = append(seen, s)
	}
	v.Seen = seen
	return v
}
