package object_test

import (
	"math"
	"slices"
	"testing"

	"heirloom/api"
	"heirloom/object"
)

func value(t int, n int64) api.Value { return api.Value{T: t, N: n} }

func TestP4_2Value(t *testing.T) {
	for _, right := range []bool{true, false} {
		for _, v := range sampleValues(right) {
			if is := object.Value(v); is != right {
				t.Errorf("Value(%v) = %v", v, is)
			}
		}
	}
}

// TestP4_2ValueEnds: the least and the greatest N of each type, and one beside them.
func TestP4_2ValueEnds(t *testing.T) {
	rows := []struct {
		t           int
		least, most int64
	}{
		{api.TNil, 0, 0}, {api.TBool, 0, 1}, {api.TNative, 0, 255}, {api.TDead, 1, 65536},
		{api.TStr, 1, 65536}, {api.TTable, 1, 65536}, {api.TFunc, 1, 65536}, {api.TBox, 1, 65536}, {api.TThread, 1, 65536}, {api.TProto, 1, 65536},
	}
	for _, r := range rows {
		for _, n := range []int64{r.least, r.most} {
			if !object.Value(value(r.t, n)) {
				t.Errorf("Value(%d, %d) = false", r.t, n)
			}
		}
		for _, n := range []int64{r.least - 1, r.most + 1, math.MinInt64, math.MaxInt64} {
			if object.Value(value(r.t, n)) {
				t.Errorf("Value(%d, %d) = true", r.t, n)
			}
		}
	}
	for _, n := range []int64{math.MinInt64, -1, 0, 1, math.MaxInt64} {
		if !object.Value(value(api.TInt, n)) {
			t.Errorf("Value of the int %d = false", n)
		}
	}
}

func TestP4_2ValueFloats(t *testing.T) {
	for _, bits := range []uint64{0, 1, 0x3ff0000000000000, 0x8000000000000000, 0x7ff0000000000000, 0xfff0000000000000, 0x7fefffffffffffff, theNaN} {
		if !object.Value(value(api.TFloat, int64(bits))) {
			t.Errorf("Value of the bits %x = false", bits)
		}
	}
	for _, bits := range []uint64{0x7ff8000000000000, 0x7ff8000000000002, 0x7ff0000000000001, 0x7fffffffffffffff, 0xfff8000000000001, 0xffffffffffffffff} {
		if object.Value(value(api.TFloat, int64(bits))) {
			t.Errorf("Value of the bits %x = true", bits)
		}
	}
}

// TestP4_2Examples are the chapter's.
func TestP4_2Examples(t *testing.T) {
	rows := []struct {
		o    api.Object
		want []int64
	}{
		{api.Object{Head: api.Head{Kind: api.TStr, Aux: 2}, Aux: []int64{2, 25185}}, []int64{4, 2, 2, 25185}},
		{
			api.Object{
				Head:  api.Head{Kind: api.TBox, Colour: api.Black, Age: api.Old, Serial: 2, Slots: 1},
				Slots: []api.Value{value(api.TInt, 7)},
			},
			[]int64{4407, 8192, 2, 7},
		},
	}
	for _, r := range rows {
		if l, err := object.Cells(r.o); !slices.Equal(l, r.want) || err != api.OK {
			t.Errorf("Cells(%s) = %v, %v; want %v", told(r.o), l, err, r.want)
		}
		if o, err := object.Read(r.want); told(o) != told(r.o) || err != api.OK {
			t.Errorf("Read(%v) = %s, %v; want %s", r.want, told(o), err, told(r.o))
		}
		if err := object.Layout(r.o); err != api.OK {
			t.Errorf("Layout(%s) = %v", told(r.o), err)
		}
	}
}

func TestP4_2Cells(t *testing.T) {
	for _, o := range sampleObjects() {
		l, err := object.Cells(o)
		if !slices.Equal(l, wantCells(o)) || err != api.OK {
			t.Errorf("Cells of %+v = %d cells, %v; want %d cells", o.Head, len(l), err, len(wantCells(o)))
		}
		if len(l) != object.Size(o.Head) {
			t.Errorf("%+v: %d cells, Size %d", o.Head, len(l), object.Size(o.Head))
		}
	}
}

// TestP4_2EmptyLists: a list without members may be nil or empty.
func TestP4_2EmptyLists(t *testing.T) {
	for _, kind := range kinds {
		for _, o := range []api.Object{{Aux: nil, Slots: nil}, {Aux: []int64{}, Slots: nil}, {Aux: nil, Slots: []api.Value{}}, {Aux: []int64{}, Slots: []api.Value{}}} {
			o.Head.Kind = kind
			if l, err := object.Cells(o); !slices.Equal(l, []int64{int64(kind), 0}) || err != api.OK {
				t.Errorf("Cells of the kind %d without parts = %v, %v", kind, l, err)
			}
		}
	}
}

// refused holds that Cells tells an error of an object, and nothing beside it, and that Layout tells the same.
func refused(t *testing.T, o api.Object, want api.Errno) {
	t.Helper()
	if l, err := object.Cells(o); len(l) != 0 || err != want {
		t.Errorf("Cells(%s) = %v, %v; want %v", told(o), l, err, want)
	}
	if err := object.Layout(o); err != want {
		t.Errorf("Layout(%s) = %v; want %v", told(o), err, want)
	}
}

// TestP4_2CellsCounts: the head tells one too few or too many, of each kind.
func TestP4_2CellsCounts(t *testing.T) {
	for _, h := range plainHeads() {
		for _, aux := range []int{0, 1, 3, 4096} {
			for _, slots := range []int{0, 1, 3, 4096} {
				o := api.Object{Head: h, Aux: some(aux), Slots: ints(slots)}
				for _, more := range []int{-1, 1} {
					o.Head.Aux, o.Head.Slots = aux+more, slots
					refused(t, o, api.ErrArg)
					o.Head.Aux, o.Head.Slots = aux, slots+more
					refused(t, o, api.ErrArg)
					o.Head.Aux, o.Head.Slots = aux+more, slots-more
					refused(t, o, api.ErrArg)
				}
			}
		}
		h.Aux, h.Slots = 2, 3
		refused(t, api.Object{Head: h, Aux: some(3), Slots: ints(2)}, api.ErrArg)
		refused(t, api.Object{Head: h}, api.ErrArg)
	}
}

// TestP4_2CellsMany: more parts than a head can tell of.
func TestP4_2CellsMany(t *testing.T) {
	for _, n := range []int{api.MaxParts + 1, 8192, 8192 + 3, api.MaxCells - 1, api.MaxCells, api.MaxCells + 1} {
		for _, kind := range kinds {
			refused(t, made(kind, some(n)), api.ErrArg)
			refused(t, made(kind, nil, ints(n)...), api.ErrArg)
			o := made(kind, some(n), ints(n)...)
			refused(t, o, api.ErrArg)
			o.Head.Aux, o.Head.Slots = n%8192, n%8192 // what their bits would say
			refused(t, o, api.ErrArg)
		}
	}
}

// TestP4_2CellsValues: a value that is not right, at each place among the slots.
func TestP4_2CellsValues(t *testing.T) {
	for _, h := range plainHeads() {
		o := api.Object{Head: h, Aux: some(h.Aux), Slots: ints(h.Slots)}
		for i := range o.Slots {
			for _, v := range sampleValues(false) {
				wrong := copied(o)
				wrong.Slots[i] = v
				refused(t, wrong, api.ErrForm)
			}
		}
	}
}

// TestP4_2CellsOrder: of several faults the one that is named first.
func TestP4_2CellsOrder(t *testing.T) {
	bad := value(api.TBool, 2)
	rows := []struct {
		o    api.Object
		want api.Errno
	}{
		{api.Object{}, api.ErrType},
		{api.Object{Head: api.Head{Kind: api.TNative, Colour: 4, Slots: 2}, Slots: []api.Value{bad}}, api.ErrType},
		{api.Object{Head: api.Head{Kind: api.TDead, Slots: 1}, Slots: []api.Value{bad}}, api.ErrType},
		{api.Object{Head: api.Head{Kind: api.TFloat, Aux: 1}}, api.ErrType},
		{api.Object{Head: api.Head{Kind: api.TBox, Colour: 4, Slots: 1}, Slots: []api.Value{bad}}, api.ErrArg},
		{api.Object{Head: api.Head{Kind: api.TBox, Weak: 1, Slots: 1}, Slots: []api.Value{bad}}, api.ErrArg},
		{api.Object{Head: api.Head{Kind: api.TBox, Slots: 2}, Slots: []api.Value{bad}}, api.ErrArg},
		{api.Object{Head: api.Head{Kind: api.TBox}, Slots: []api.Value{bad}}, api.ErrArg},
		{api.Object{Head: api.Head{Kind: api.TBox, Aux: 1, Slots: 1}, Slots: []api.Value{bad}}, api.ErrArg},
		{api.Object{Head: api.Head{Kind: api.TBox, Slots: -1}}, api.ErrArg},
		{api.Object{Head: api.Head{Kind: api.TBox, Slots: 1}, Slots: []api.Value{bad}}, api.ErrForm},
		{api.Object{Head: api.Head{Kind: api.TThread, Slots: 2}, Slots: []api.Value{{}, bad}}, api.ErrForm},
	}
	for _, r := range rows {
		refused(t, r.o, r.want)
	}
	for _, kind := range wrongKinds {
		refused(t, made(kind, some(1), ints(1)...), api.ErrType)
	}
}

func TestP4_2Read(t *testing.T) {
	for _, o := range sampleObjects() {
		got, err := object.Read(wantCells(o))
		if told(got) != told(o) || err != api.OK {
			t.Errorf("Read of the cells of %+v = %+v, %v", o.Head, got.Head, err)
		}
	}
	for _, v := range sampleValues(true) {
		o := made(api.TThread, nil, v)
		if got, err := object.Read([]int64{8, 8192, int64(v.T), v.N}); told(got) != told(o) || err != api.OK {
			t.Errorf("Read of the cells of %s = %s, %v", told(o), told(got), err)
		}
	}
}

// unread holds that cells are no object's.
func unread(t *testing.T, l []int64) {
	t.Helper()
	if o, err := object.Read(l); told(o) != told(api.Object{}) || err != api.ErrForm {
		t.Errorf("Read(%d cells, %v ..) = %s, %v; want ErrForm", len(l), l[:min(len(l), 6)], told(o), err)
	}
}

// TestP4_2ReadLengths: cells that are cut off anywhere, or are too many.
func TestP4_2ReadLengths(t *testing.T) {
	for _, h := range plainHeads() {
		for _, parts := range [][2]int{{0, 0}, {1, 0}, {0, 1}, {3, 2}, {2, 3}} {
			h.Aux, h.Slots = parts[0], parts[1]
			l := wantCells(api.Object{Head: h, Aux: some(h.Aux), Slots: ints(h.Slots)})
			for n := range l {
				unread(t, l[:n])
			}
			unread(t, append(slices.Clone(l), 0))
			unread(t, append(slices.Clone(l), 0, 0))
			unread(t, append(slices.Clone(l), 2, 7))
			unread(t, append(slices.Clone(l), l...))
		}
	}
	unread(t, nil)
	unread(t, []int64{})
	for _, n := range []int{1, 2, 3, 4, api.MaxParts, api.MaxCells - 1, api.MaxCells, api.MaxCells + 1} {
		l := make([]int64, n)
		unread(t, l)
		if n != 2 { // two cells are all of a string without parts
			l[0] = api.TStr
			unread(t, l)
		}
	}
}

// TestP4_2ReadTooLong: heads that tell of as many parts as there are, but of more than there may be.
func TestP4_2ReadTooLong(t *testing.T) {
	for _, n := range []int64{api.MaxParts + 1, 8191} {
		unread(t, append([]int64{api.TThread, n}, some(int(n))...))
		unread(t, append([]int64{api.TThread, n << 13}, make([]int64, 2*n)...))
	}
	for _, n := range []int64{api.MaxCells - 1, api.MaxCells} {
		unread(t, append([]int64{api.TThread, n << 13}, make([]int64, 2*n)...))
	}
}

func TestP4_2ReadHeads(t *testing.T) {
	for _, a := range []int64{0, 3, 10, 11, 8 + 7<<6, 8 + 1<<9, 8 + 1<<42, 8 - 1<<63, -1} {
		unread(t, []int64{a, 8192, 2, 7})
	}
	for _, b := range []int64{8192 + 1<<26, 8192 + 1<<57, 8192 - 1<<63, -1, 0, 1, 2, 3, 8191, 8193, 2 * 8192, 4097 * 8192} {
		if b != 2 { // two aux cells
			unread(t, []int64{8, b, 2, 7})
		}
	}
	for i := range 64 {
		if h, is := wantUnpacked(8, 8192^1<<i); !is || h.Aux+2*h.Slots != 2 {
			unread(t, []int64{8, 8192 ^ 1<<i, 2, 7})
		}
		if _, is := wantUnpacked(8^1<<i, 8192); !is {
			unread(t, []int64{8 ^ 1<<i, 8192, 2, 7})
		}
	}
}

func TestP4_2ReadValues(t *testing.T) {
	for _, v := range sampleValues(false) {
		unread(t, []int64{7, 8192, int64(v.T), v.N})
		unread(t, []int64{9, 1 + 3*8192, 5, 2, 1, int64(v.T), v.N, 2, 1})
		unread(t, []int64{5, 2 + 2*8192, 1, 0, 0, 0, int64(v.T), v.N})
	}
}

func TestP4_4Refs(t *testing.T) {
	slots := []api.Value{
		value(api.TNil, 0), value(api.TStr, 9), value(api.TTable, 1), value(api.TInt, 3), value(api.TFunc, 65536),
		value(api.TDead, 4), value(api.TBox, 9), value(api.TFloat, 5), value(api.TThread, 2), value(api.TBool, 1),
		value(api.TProto, 9), value(api.TNative, 6), value(api.TStr, 9),
		value(api.TStr, 0), value(api.TTable, -1), value(api.TProto, 65537), value(api.TFunc, math.MinInt64), value(api.TBox, math.MaxInt64), // not right
		value(-1, 8), value(12, 8), value(1<<32+4, 8), value(api.TThread, 1),
	}
	want := []int{9, 1, 65536, 9, 2, 9, 9, 1}
	whatever := []api.Head{
		{Kind: api.TThread, Slots: len(slots)}, {Kind: api.TStr}, {}, {Kind: -1, Colour: 9, Slots: 1, Aux: -3}, {Kind: api.TTable, Weak: 3, Slots: len(slots)}, {Kind: api.TTable, Fin: -1},
	}
	for _, h := range whatever {
		for _, aux := range [][]int64{nil, {4, 1}, some(7)} {
			if l := object.Refs(api.Object{Head: h, Aux: aux, Slots: slots}); !slices.Equal(l, want) {
				t.Errorf("Refs of %+v = %v; want %v", h, l, want)
			}
		}
	}
}

func TestP4_4RefsOfEachValue(t *testing.T) {
	for _, v := range append(sampleValues(true), sampleValues(false)...) {
		var want []int
		if wantValue(v) && slices.Contains(kinds, v.T) {
			want = []int{int(v.N)}
		}
		if l := object.Refs(api.Object{Slots: []api.Value{v}}); !slices.Equal(l, want) {
			t.Errorf("Refs of the slot %v = %v; want %v", v, l, want)
		}
	}
	if l := object.Refs(api.Object{}); len(l) != 0 {
		t.Errorf("Refs of nothing = %v", l)
	}
	if l := object.Refs(made(api.TStr, []int64{4, 1, 4, 2})); len(l) != 0 {
		t.Errorf("Refs of aux cells = %v", l)
	}
	many := make([]api.Value, api.MaxCells+1) // more than an object may have
	for i := range many {
		many[i] = value(api.TBox, int64(i+1))
	}
	if l := object.Refs(api.Object{Slots: many}); len(l) != api.MaxCells || l[0] != 1 || l[api.MaxCells-1] != api.MaxCells {
		t.Errorf("Refs of %d slots: %d", len(many), len(l))
	}
}
