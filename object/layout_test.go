package object_test

import (
	"encoding/binary"
	"math"
	"slices"
	"strings"
	"testing"

	"heirloom/api"
	"heirloom/object"
	"heirloom/text"
)

// wantSlots is a letter for each slot that an object must have: what may stand there; false: no slots would do.
func wantSlots(o api.Object) (string, bool) {
	switch o.Head.Kind {
	case api.TStr:
		return "", wantText(o.Aux)
	case api.TTable:
		if len(o.Aux) != 2 || o.Aux[0] < 0 || o.Aux[0] > 4095 || !slices.Contains([]int64{0, 1, 2, 4, 8, 16, 32, 64, 128, 256, 512, 1024}, o.Aux[1]) {
			return "", false
		}
		return "m" + strings.Repeat("v", int(o.Aux[0])) + strings.Repeat("kv", int(o.Aux[1])), true
	case api.TFunc:
		return "p" + strings.Repeat("b", max(0, len(o.Slots)-1)), len(o.Aux) == 0
	case api.TBox:
		return "v", len(o.Aux) == 0
	case api.TThread:
		return strings.Repeat("v", len(o.Slots)), len(o.Aux) == 0
	}
	return strings.Repeat("v", len(o.Slots)), len(o.Aux) == 1
}

// wantText: aux cells are a string's.
func wantText(aux []int64) bool {
	if len(aux) == 0 || aux[0] < 0 {
		return false
	}
	var all []byte
	for _, c := range aux[1:] {
		all = binary.LittleEndian.AppendUint64(all, uint64(c))
	}
	if aux[0] > int64(len(all)) || int64(len(all))-aux[0] >= 8 {
		return false
	}
	return strings.Trim(string(all[aux[0]:]), "\x00") == ""
}

// mayStand tells whether a value may stand where a letter of wantSlots is.
func mayStand(letter rune, v api.Value) bool {
	switch letter {
	case 'm':
		return v.T == api.TNil || v.T == api.TTable
	case 'p':
		return v.T == api.TProto
	case 'b':
		return v.T == api.TBox
	case 'v':
		return v.T != api.TDead
	}
	return true
}

// wantLayout is what Layout must say of an object that has cells.
func wantLayout(o api.Object) api.Errno {
	letters, is := wantSlots(o)
	if !is || len(letters) != len(o.Slots) {
		return api.ErrForm
	}
	for i, letter := range letters {
		if !mayStand(letter, o.Slots[i]) {
			return api.ErrForm
		}
	}
	return api.OK
}

// eachList calls with all lists of up to most members out of some.
func eachList[T any](members []T, most int, with func(l []T)) {
	var grow func(l []T)
	grow = func(l []T) {
		with(l)
		if len(l) == most {
			return
		}
		for _, m := range members {
			grow(append(l, m))
		}
	}
	grow(make([]T, 0, most))
}

// TestP4_3SmallObjects: all small objects of every kind, with slots of each type that a layout asks for.
func TestP4_3SmallObjects(t *testing.T) {
	values := []api.Value{{}, value(api.TTable, 3), value(api.TProto, 4), value(api.TBox, 5), value(api.TDead, 6)}
	met := map[int]int{}
	eachList([]int64{-1, 0, 1, 2, 3}, 2, func(aux []int64) {
		eachList(values, 5, func(slots []api.Value) {
			for _, kind := range kinds {
				o := made(kind, aux, slots...)
				want := wantLayout(o)
				if err := object.Layout(o); err != want {
					t.Fatalf("Layout(%s) = %v; want %v", told(o), err, want)
				}
				if want == api.OK {
					met[kind]++
				}
			}
		})
	})
	for _, kind := range kinds {
		if met[kind] == 0 {
			t.Errorf("no object of the kind %d was met that is as it asks", kind)
		}
	}
}

type layoutRow struct {
	o    api.Object
	want api.Errno
}

func checkLayouts(t *testing.T, rows []layoutRow) {
	t.Helper()
	for _, r := range rows {
		if _, err := object.Cells(r.o); err != api.OK {
			t.Errorf("Cells(%s) = %v", told(r.o), err)
		}
		if err := object.Layout(r.o); err != r.want {
			t.Errorf("Layout(%s) = %v; want %v", told(r.o), err, r.want)
		}
	}
}

func TestP4_3Strings(t *testing.T) {
	for _, s := range []string{"", "a", "ab", "seven77", "eight888", "nine99999", "\x00", "a\x00", "\xff\xff\xff\xff\xff\xff\xff\xff", strings.Repeat("x", 4095), strings.Repeat("x", 4096)} {
		aux := append([]int64{int64(len(s))}, text.Pack(s)...)
		checkLayouts(t, []layoutRow{
			{made(api.TStr, aux), api.OK},
			{made(api.TStr, aux, api.Value{}), api.ErrForm},
			{made(api.TStr, append(slices.Clone(aux), 0)), api.ErrForm},
			{made(api.TStr, aux[:len(aux)-1]), api.ErrForm},
		})
	}
	checkLayouts(t, []layoutRow{
		{made(api.TStr, nil), api.ErrForm}, // not even how many bytes
		{made(api.TStr, []int64{0}), api.OK},
		{made(api.TStr, []int64{0, 0}), api.ErrForm},
		{made(api.TStr, []int64{1}), api.ErrForm},
		{made(api.TStr, []int64{-1}), api.ErrForm},
		{made(api.TStr, []int64{-8, 0}), api.ErrForm},
		{made(api.TStr, []int64{2, 25185}), api.OK},
		{made(api.TStr, []int64{25185}), api.ErrForm},    // bytes, but not how many
		{made(api.TStr, []int64{1, 25185}), api.ErrForm}, // a spare byte that is not 0
		{made(api.TStr, []int64{3, 25185}), api.OK},
		{made(api.TStr, []int64{8, -1}), api.OK},
		{made(api.TStr, []int64{7, -1}), api.ErrForm},
		{made(api.TStr, []int64{9, -1}), api.ErrForm},
		{made(api.TStr, []int64{8, -1, 0}), api.ErrForm},
		{made(api.TStr, []int64{9, -1, 255}), api.OK},
		{made(api.TStr, []int64{9, -1, 256}), api.ErrForm},
		{made(api.TStr, []int64{math.MaxInt64, 0}), api.ErrForm},
		{made(api.TStr, []int64{math.MinInt64, 0}), api.ErrForm},
		{made(api.TStr, []int64{math.MinInt64}), api.ErrForm},
		{made(api.TStr, []int64{1<<32 + 2, 25185}), api.ErrForm},
		{made(api.TStr, append([]int64{4095 * 8}, some(4095)...)), api.OK}, // all aux cells that an object may have
		{made(api.TStr, append([]int64{4096 * 8}, some(4095)...)), api.ErrForm},
	})
}

// tableOf is a table whose slots but the metatable's are ints, as many as there are to be.
func tableOf(array, pairs int64, slots int) api.Object {
	o := made(api.TTable, []int64{array, pairs}, ints(slots)...)
	if slots > 0 {
		o.Slots[0] = api.Value{}
	}
	return o
}

func TestP4_3TableSizes(t *testing.T) {
	for array := int64(-1); array <= 9; array++ {
		for pairs := int64(-2); pairs <= 9; pairs++ {
			for slots := range 30 {
				o := tableOf(array, pairs, slots)
				want := api.ErrForm
				if array >= 0 && slices.Contains([]int64{0, 1, 2, 4, 8}, pairs) && int64(slots) == 1+array+2*pairs {
					want = api.OK
				}
				if err := object.Layout(o); err != want {
					t.Errorf("Layout of a table of %d, %d, %d slots = %v; want %v", array, pairs, slots, err, want)
				}
			}
		}
	}
}

// TestP4_3TableLimits: tables with all slots that an object may have, and with sizes whose sums wrap round.
func TestP4_3TableLimits(t *testing.T) {
	checkLayouts(t, []layoutRow{
		{tableOf(4095, 0, 4096), api.OK},
		{tableOf(4096, 0, 4096), api.ErrForm},
		{tableOf(4094, 0, 4096), api.ErrForm},
		{tableOf(2047, 1024, 4096), api.OK},
		{tableOf(2046, 1024, 4095), api.OK},
		{tableOf(0, 1024, 2049), api.OK},
		{tableOf(0, 2048, 4096), api.ErrForm},
		{tableOf(-1, 2048, 4096), api.ErrForm},
		{tableOf(1, 1536, 3074), api.ErrForm}, // no power of two
	})
	wide := []int64{math.MinInt64, math.MinInt64 + 1, -1 << 62, -4, -2, 1 << 31, 1 << 32, 1 << 61, 1 << 62, math.MaxInt64, math.MaxInt64 - 1}
	for slots := range 12 {
		for _, pairs := range wide {
			for _, array := range append(slices.Clone(wide), 0, 1, 2, int64(slots)-1-2*pairs) {
				if err := object.Layout(tableOf(array, pairs, slots)); err != api.ErrForm {
					t.Errorf("Layout of a table of %d, %d, %d slots = %v", array, pairs, slots, err)
				}
			}
		}
		for _, array := range wide {
			for pairs := range int64(5) {
				if err := object.Layout(tableOf(array, pairs, slots)); err != api.ErrForm {
					t.Errorf("Layout of a table of %d, %d, %d slots = %v", array, pairs, slots, err)
				}
			}
		}
	}
}

// TestP4_3TableAux: a table has two aux cells, not one more or less.
func TestP4_3TableAux(t *testing.T) {
	nothing := api.Value{}
	checkLayouts(t, []layoutRow{
		{made(api.TTable, []int64{0, 0}, nothing), api.OK},
		{made(api.TTable, nil, nothing), api.ErrForm},
		{made(api.TTable, []int64{0}, nothing), api.ErrForm},
		{made(api.TTable, []int64{0, 0, 0}, nothing), api.ErrForm},
		{made(api.TTable, []int64{0, 0}), api.ErrForm},
		{made(api.TTable, nil), api.ErrForm},
	})
}

// TestP4_3TableSlots: each value in each place of a table with an array and with pairs.
func TestP4_3TableSlots(t *testing.T) {
	for _, v := range sampleValues(true) {
		for i := range 8 { // the metatable, three values, two pairs
			o := made(api.TTable, []int64{3, 2}, make([]api.Value, 8)...)
			o.Slots[i] = v
			want := api.OK
			switch i {
			case 0:
				if v.T != api.TNil && v.T != api.TTable {
					want = api.ErrForm
				}
			case 1, 2, 3, 5, 7:
				if v.T == api.TDead {
					want = api.ErrForm
				}
			}
			if err := object.Layout(o); err != want {
				t.Errorf("Layout of a table with %v in slot %d = %v; want %v", v, i, err, want)
			}
		}
		o := made(api.TTable, []int64{0, 1}, api.Value{}, v, api.Value{}) // a key behind the metatable
		if err := object.Layout(o); err != api.OK {
			t.Errorf("Layout of a table with the key %v = %v", v, err)
		}
	}
}

func TestP4_3Funcs(t *testing.T) {
	proto, box, other := value(api.TProto, 1), value(api.TBox, 2), value(api.TBox, 65536)
	all := slices.Repeat([]api.Value{box}, 4096)
	all[0] = proto
	late := slices.Clone(all)
	late[4095] = proto
	checkLayouts(t, []layoutRow{
		{made(api.TFunc, nil), api.ErrForm},
		{made(api.TFunc, nil, proto), api.OK},
		{made(api.TFunc, nil, proto, box), api.OK},
		{made(api.TFunc, nil, proto, box, other, box), api.OK},
		{made(api.TFunc, nil, box), api.ErrForm},
		{made(api.TFunc, nil, box, proto), api.ErrForm},
		{made(api.TFunc, nil, proto, proto), api.ErrForm},
		{made(api.TFunc, nil, proto, box, box, proto), api.ErrForm},
		{made(api.TFunc, []int64{0}, proto), api.ErrForm},
		{made(api.TFunc, []int64{0}), api.ErrForm},
		{made(api.TFunc, nil, all...), api.OK},
		{made(api.TFunc, nil, late...), api.ErrForm},
	})
	for _, v := range sampleValues(true) {
		first, second := api.ErrForm, api.ErrForm
		if v.T == api.TProto {
			first = api.OK
		}
		if v.T == api.TBox {
			second = api.OK
		}
		checkLayouts(t, []layoutRow{
			{made(api.TFunc, nil, v), first},
			{made(api.TFunc, nil, v, box), first},
			{made(api.TFunc, nil, proto, v), second},
			{made(api.TFunc, nil, proto, v, box), second},
			{made(api.TFunc, nil, proto, box, v), second},
		})
	}
}

// TestP4_3Others: boxes, threads and protos take each value that is not dead.
func TestP4_3Others(t *testing.T) {
	nothing := api.Value{}
	for _, v := range sampleValues(true) {
		want := api.OK
		if v.T == api.TDead {
			want = api.ErrForm
		}
		checkLayouts(t, []layoutRow{
			{made(api.TBox, nil, v), want},
			{made(api.TBox, nil, v, nothing), api.ErrForm},
			{made(api.TBox, nil, nothing, v), api.ErrForm},
			{made(api.TBox, []int64{0}, v), api.ErrForm},
			{made(api.TThread, nil, v), want},
			{made(api.TThread, nil, nothing, v), want},
			{made(api.TThread, nil, v, nothing, nothing), want},
			{made(api.TThread, []int64{1}, v), api.ErrForm},
			{made(api.TProto, []int64{0}, v), want},
			{made(api.TProto, []int64{math.MinInt64}, nothing, nothing, v), want},
			{made(api.TProto, nil, v), api.ErrForm},
			{made(api.TProto, []int64{0, 0}, v), api.ErrForm},
		})
	}
	checkLayouts(t, []layoutRow{
		{made(api.TBox, nil), api.ErrForm},
		{made(api.TThread, nil), api.OK},
		{made(api.TThread, []int64{0}), api.ErrForm},
		{made(api.TThread, nil, ints(4096)...), api.OK},
		{made(api.TProto, []int64{math.MaxInt64}), api.OK},
		{made(api.TProto, nil), api.ErrForm},
		{made(api.TProto, []int64{7, 7}), api.ErrForm},
		{made(api.TProto, []int64{7}, ints(4096)...), api.OK},
	})
}

// TestP4_3Heads: what else a head says is no matter of the layout, as long as it is right.
func TestP4_3Heads(t *testing.T) {
	for _, h := range rightHeads() {
		if h.Aux != 1 || h.Slots != 1 || h.Kind != api.TProto {
			continue
		}
		o := api.Object{Head: h, Aux: []int64{3}, Slots: ints(1)}
		if err := object.Layout(o); err != api.OK {
			t.Errorf("Layout(%s) = %v", told(o), err)
		}
		o.Head.Colour = 4
		if err := object.Layout(o); err != api.ErrArg {
			t.Errorf("Layout(%s) = %v", told(o), err)
		}
	}
}

// TestP4_3Order: Cells' error goes ahead of what the kind asks.
func TestP4_3Order(t *testing.T) {
	rows := []layoutRow{
		{api.Object{Head: api.Head{Kind: api.TNil, Aux: 9}, Slots: ints(2)}, api.ErrType},
		{api.Object{Head: api.Head{Kind: api.TBox, Age: 7}}, api.ErrArg},
		{api.Object{Head: api.Head{Kind: api.TBox}, Slots: ints(1)}, api.ErrArg},
		{api.Object{Head: api.Head{Kind: api.TStr, Slots: 1}, Slots: ints(2)}, api.ErrArg},
		{api.Object{Head: api.Head{Kind: api.TTable, Aux: 2}, Aux: []int64{0}}, api.ErrArg},
		{made(api.TBox, nil, value(api.TStr, 0)), api.ErrForm},
		{made(api.TTable, []int64{0, 0}, value(api.TTable, 0)), api.ErrForm},
		{made(api.TFunc, nil, value(api.TProto, 0)), api.ErrForm},
		{made(api.TFunc, nil, value(api.TProto, 1), value(api.TBox, 65537)), api.ErrForm},
		{made(api.TTable, []int64{0, 1}, api.Value{}, value(api.TDead, 0), api.Value{}), api.ErrForm},
	}
	for _, r := range rows {
		if err := object.Layout(r.o); err != r.want {
			t.Errorf("Layout(%s) = %v; want %v", told(r.o), err, r.want)
		}
	}
}
