package object_test

import (
	"fmt"
	"math"
	"slices"

	"heirloom/api"
)

// maxCount is 2^31 - 1, the greatest Serial and the greatest Fin.
const maxCount = 2147483647

// theNaN are the bits of the one NaN that is a number.
const theNaN = 0x7ff8000000000001

// kinds are those that an object may have.
var kinds = []int{api.TStr, api.TTable, api.TFunc, api.TBox, api.TThread, api.TProto}

// wrongKinds are types of which there are no objects, and no types at all.
var wrongKinds = []int{
	api.TNil, api.TBool, api.TInt, api.TFloat, api.TNative, api.TDead,
	-1, 12, 15, 16, 20, 21, -5, math.MinInt, math.MinInt + 5, math.MaxInt, 1<<32 + api.TTable,
}

// field is a field of a head but Kind: which one, and its greatest value.
type field struct {
	name string
	most int
	of   func(h *api.Head) *int
}

func fields() []field {
	return []field{
		{"Colour", 3, func(h *api.Head) *int { return &h.Colour }},
		{"Age", 6, func(h *api.Head) *int { return &h.Age }},
		{"Weak", 3, func(h *api.Head) *int { return &h.Weak }},
		{"Serial", maxCount, func(h *api.Head) *int { return &h.Serial }},
		{"Fin", maxCount, func(h *api.Head) *int { return &h.Fin }},
		{"Aux", 4096, func(h *api.Head) *int { return &h.Aux }},
		{"Slots", 4096, func(h *api.Head) *int { return &h.Slots }},
	}
}

// wrong are values beside those that the field may have.
func (f field) wrong() []int {
	return []int{
		-1, -2, -f.most, -f.most - 1, f.most + 1, f.most + 2, 2*f.most + 1, 2*f.most + 2,
		math.MinInt, math.MinInt + 1, math.MaxInt, math.MaxInt - 1, 1 << 32, 1<<32 + 1,
	}
}

// tables: the field is 0 in all heads but those of tables.
func (f field) tables() bool { return f.name == "Weak" || f.name == "Fin" }

// wantRight is what Right must say of a head.
func wantRight(h api.Head) api.Errno {
	if !slices.Contains(kinds, h.Kind) {
		return api.ErrType
	}
	for _, f := range fields() {
		n := *f.of(&h)
		if n < 0 || n > f.most || n != 0 && f.tables() && h.Kind != api.TTable {
			return api.ErrArg
		}
	}
	return api.OK
}

// wantPacked are the two cells of a head that is right, as the chapter's sums.
func wantPacked(h api.Head) [2]int64 {
	return [2]int64{
		int64(h.Kind + 16*h.Colour + 64*h.Age + 512*h.Weak + 2048*h.Serial),
		int64(h.Aux + 8192*h.Slots + 67108864*h.Fin),
	}
}

// wantUnpacked is the head of two cells, taken apart by quotients; false: they are no right head's.
func wantUnpacked(a, b int64) (api.Head, bool) {
	if a < 0 || b < 0 {
		return api.Head{}, false
	}
	h := api.Head{
		Kind: int(a % 16), Colour: int(a / 16 % 4), Age: int(a / 64 % 8), Weak: int(a / 512 % 4), Serial: int(a / 2048),
		Aux: int(b % 8192), Slots: int(b / 8192 % 8192), Fin: int(b / 67108864),
	}
	if wantRight(h) != api.OK {
		return api.Head{}, false
	}
	return h, true
}

// rightHeads are heads that are right, each field at all its values or at its ends, no two alike.
func rightHeads() []api.Head {
	counts, parts := []int{0, 1, maxCount - 1, maxCount}, []int{0, 1, 4095, 4096}
	l := []api.Head{}
	for _, kind := range kinds {
		for colour := range 4 {
			for age := range 7 {
				l = append(l, api.Head{Kind: kind, Colour: colour, Age: age})
			}
		}
	}
	l = withEach(l, parts, func(h *api.Head) *int { return &h.Aux })
	l = withEach(l, parts, func(h *api.Head) *int { return &h.Slots })
	l = withEach(l, counts, func(h *api.Head) *int { return &h.Serial })
	isTable := func(h api.Head) bool { return h.Kind == api.TTable }
	tables := slices.DeleteFunc(slices.Clone(l), func(h api.Head) bool { return !isTable(h) })
	tables = withEach(tables, []int{0, 1, 2, 3}, func(h *api.Head) *int { return &h.Weak })
	tables = withEach(tables, counts, func(h *api.Head) *int { return &h.Fin })
	return append(slices.DeleteFunc(l, isTable), tables...)
}

// withEach are all the heads with all the values in a field.
func withEach(l []api.Head, values []int, of func(h *api.Head) *int) []api.Head {
	var out []api.Head
	for _, h := range l {
		for _, n := range values {
			*of(&h) = n
			out = append(out, h)
		}
	}
	return out
}

// plainHeads are one head of each kind that is right and has all its fields in the middle.
func plainHeads() []api.Head {
	var l []api.Head
	for _, kind := range kinds {
		h := api.Head{Kind: kind, Colour: 2, Age: 4, Serial: 77, Aux: 3, Slots: 5}
		if kind == api.TTable {
			h.Weak, h.Fin = 1, 9
		}
		l = append(l, h)
	}
	return l
}

// sampleNs are numbers of values: the ends of all types, and what lies beside them.
func sampleNs() []int64 {
	l := []int64{
		math.MinInt64, math.MinInt64 + 1, -65536, -255, -2, -1, 0, 1, 2, 3, 254, 255, 256, 257,
		65535, 65536, 65537, 1 << 31, 1 << 32, 1<<32 + 1, math.MaxInt64 - 1, math.MaxInt64,
	}
	for _, f := range []float64{1, -1, 0.5, math.MaxFloat64, -math.MaxFloat64, math.Copysign(0, -1), math.Inf(1), math.Inf(-1)} {
		l = append(l, int64(math.Float64bits(f)))
	}
	for _, bits := range []uint64{theNaN, theNaN - 1, theNaN + 1, 0x7ff0000000000001, 0x7fffffffffffffff, 0xfff8000000000001, 0xfff0000000000001, math.MaxUint64} {
		l = append(l, int64(bits))
	}
	return l
}

// wantValue is what Value must say.
func wantValue(v api.Value) bool {
	within := func(least, most int64) bool { return v.N >= least && v.N <= most }
	switch v.T {
	case api.TNil:
		return within(0, 0)
	case api.TBool:
		return within(0, 1)
	case api.TInt:
		return true
	case api.TFloat:
		isNaN := uint64(v.N)<<1 > 0x7ff0000000000000<<1
		return !isNaN || uint64(v.N) == theNaN
	case api.TStr, api.TTable, api.TFunc, api.TBox, api.TThread, api.TProto, api.TDead:
		return within(1, 65536)
	case api.TNative:
		return within(0, 255)
	}
	return false
}

// sampleValues are values of each type and of none with each number; right: those alone that are right, or that are not.
func sampleValues(right bool) []api.Value {
	var l []api.Value
	for _, t := range append(slices.Clone(kinds), wrongKinds...) {
		for _, n := range sampleNs() {
			if v := (api.Value{T: t, N: n}); wantValue(v) == right {
				l = append(l, v)
			}
		}
	}
	return l
}

// made is an object whose head tells how many aux cells and slots there are.
func made(kind int, aux []int64, slots ...api.Value) api.Object {
	return api.Object{Head: api.Head{Kind: kind, Aux: len(aux), Slots: len(slots)}, Aux: aux, Slots: slots}
}

// wantCells are an object's, which must be one that has cells.
func wantCells(o api.Object) []int64 {
	head := wantPacked(o.Head)
	l := append([]int64{head[0], head[1]}, o.Aux...)
	for _, v := range o.Slots {
		l = append(l, int64(v.T), v.N)
	}
	return l
}

// told is all of an object as a text; a list that is nil is as an empty one.
func told(o api.Object) string { return fmt.Sprintf("%+v %v %v", o.Head, o.Aux, o.Slots) }

// copied is an object that shares nothing.
func copied(o api.Object) api.Object {
	o.Aux, o.Slots = slices.Clone(o.Aux), slices.Clone(o.Slots)
	return o
}

// some is a list of numbers, no two alike.
func some(n int) []int64 {
	l := make([]int64, n)
	for i := range l {
		l[i] = int64(1000 + i)
	}
	return l
}

// ints are values, no two alike.
func ints(n int) []api.Value {
	l := make([]api.Value, n)
	for i := range l {
		l[i] = api.Value{T: api.TInt, N: int64(-7 - i)}
	}
	return l
}

// sampleObjects have cells, though not all are as their kind asks: of each kind with no, one, some and all parts.
func sampleObjects() []api.Object {
	var l []api.Object
	for _, h := range plainHeads() {
		for _, aux := range []int{0, 1, 2, 5, 4095, 4096} {
			for _, slots := range []int{0, 1, 2, 5, 4095, 4096} {
				h.Aux, h.Slots = aux, slots
				l = append(l, api.Object{Head: h, Aux: some(aux), Slots: ints(slots)})
			}
		}
		h.Aux, h.Slots = 2, len(sampleValues(true))
		l = append(l, api.Object{Head: h, Aux: []int64{math.MinInt64, math.MaxInt64}, Slots: sampleValues(true)})
	}
	return l
}
