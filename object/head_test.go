package object_test

import (
	"math"
	"testing"

	"heirloom/api"
	"heirloom/object"
)

// checkHead holds Right, Size, Pack and Unpack of a head against what the chapter says.
func checkHead(t *testing.T, h api.Head) {
	t.Helper()
	want, size, cells := wantRight(h), 0, [2]int64{}
	if want == api.OK {
		size, cells = 2+h.Aux+2*h.Slots, wantPacked(h)
	}
	if err := object.Right(h); err != want {
		t.Errorf("Right(%+v) = %v; want %v", h, err, want)
	}
	if n := object.Size(h); n != size {
		t.Errorf("Size(%+v) = %d; want %d", h, n, size)
	}
	if a, b, err := object.Pack(h); [2]int64{a, b} != cells || err != want {
		t.Errorf("Pack(%+v) = %d, %d, %v; want %d, %v", h, a, b, err, cells, want)
	}
	if want != api.OK {
		return
	}
	if g, err := object.Unpack(cells[0], cells[1]); g != h || err != api.OK {
		t.Errorf("Unpack(%d) = %+v, %v; want %+v", cells, g, err, h)
	}
}

// TestP4_1Examples are the heads of the chapter's.
func TestP4_1Examples(t *testing.T) {
	rows := []struct {
		h    api.Head
		a, b int64
		size int
	}{
		{api.Head{Kind: api.TStr, Aux: 2}, 4, 2, 4},
		{api.Head{Kind: api.TBox, Colour: api.Black, Age: api.Old, Serial: 2, Slots: 1}, 4407, 8192, 4},
	}
	for _, r := range rows {
		if a, b, err := object.Pack(r.h); a != r.a || b != r.b || err != api.OK {
			t.Errorf("Pack(%+v) = %d, %d, %v; want %d, %d", r.h, a, b, err, r.a, r.b)
		}
		if h, err := object.Unpack(r.a, r.b); h != r.h || err != api.OK {
			t.Errorf("Unpack(%d, %d) = %+v, %v; want %+v", r.a, r.b, h, err, r.h)
		}
		if n := object.Size(r.h); n != r.size {
			t.Errorf("Size(%+v) = %d; want %d", r.h, n, r.size)
		}
	}
}

func TestP4_1RightHeads(t *testing.T) {
	for _, h := range rightHeads() {
		if wantRight(h) != api.OK {
			t.Fatalf("%+v is no sample of a right head", h)
		}
		checkHead(t, h)
		if t.Failed() {
			return
		}
	}
	for _, h := range plainHeads() {
		checkHead(t, h)
	}
}

// TestP4_1GreatestCells: each field at its greatest value, in numbers of the test's own.
func TestP4_1GreatestCells(t *testing.T) {
	h := api.Head{Kind: api.TTable, Colour: 3, Age: 6, Weak: 3, Serial: maxCount, Fin: maxCount, Aux: 4096, Slots: 4096}
	a, b, err := object.Pack(h)
	if a != 0x3ffffffffb5 || b != 0x1fffffffe001000 || err != api.OK {
		t.Errorf("Pack(%+v) = %x, %x, %v", h, a, b, err)
	}
	if n := object.Size(h); n != 12290 {
		t.Errorf("Size(%+v) = %d", h, n)
	}
	if n := object.Size(api.Head{Kind: api.TThread}); n != 2 {
		t.Errorf("Size of an object without parts = %d", n)
	}
}

// TestP4_1OneFieldWrong: each field beside its values, in a head that is right but for it.
func TestP4_1OneFieldWrong(t *testing.T) {
	for _, h := range plainHeads() {
		for _, f := range fields() {
			for _, n := range f.wrong() {
				g := h
				*f.of(&g) = n
				if err := object.Right(g); err != api.ErrArg {
					t.Errorf("Right(%+v) = %v; want ErrArg for its %s", g, err, f.name)
				}
				checkHead(t, g)
			}
		}
	}
}

// TestP4_1FieldsOfTables: Weak and Fin are 0 in heads of other kinds.
func TestP4_1FieldsOfTables(t *testing.T) {
	for _, kind := range kinds {
		want := api.ErrArg
		if kind == api.TTable {
			want = api.OK
		}
		for _, h := range []api.Head{{Weak: 1}, {Weak: 2}, {Weak: 3}, {Fin: 1}, {Fin: maxCount}, {Weak: 1, Fin: 1}} {
			h.Kind = kind
			if err := object.Right(h); err != want {
				t.Errorf("Right(%+v) = %v; want %v", h, err, want)
			}
			checkHead(t, h)
		}
	}
}

// TestP4_1KindFirst: a wrong Kind goes ahead of all else that is wrong.
func TestP4_1KindFirst(t *testing.T) {
	for _, kind := range wrongKinds {
		checkHead(t, api.Head{Kind: kind})
		for _, h := range plainHeads() {
			h.Kind = kind
			checkHead(t, h)
			for _, f := range fields() {
				for _, n := range f.wrong() {
					g := h
					*f.of(&g) = n
					if err := object.Right(g); err != api.ErrType {
						t.Errorf("Right(%+v) = %v; want ErrType", g, err)
					}
					checkHead(t, g)
				}
			}
		}
	}
}

// TestP4_1Sizes: heads that tell of as many parts as an arena has cells.
func TestP4_1Sizes(t *testing.T) {
	for _, n := range []int{-1, 0, 1, 2, api.MaxParts - 1, api.MaxParts, api.MaxParts + 1, api.MaxCells - 1, api.MaxCells, api.MaxCells + 1} {
		for _, kind := range kinds {
			checkHead(t, api.Head{Kind: kind, Aux: n})
			checkHead(t, api.Head{Kind: kind, Slots: n})
			checkHead(t, api.Head{Kind: kind, Aux: n, Slots: n})
		}
	}
}

// checkUnpack holds Unpack of two cells against what the chapter says.
func checkUnpack(t *testing.T, a, b int64) {
	t.Helper()
	want, is := wantUnpacked(a, b)
	h, err := object.Unpack(a, b)
	if is && (h != want || err != api.OK) {
		t.Errorf("Unpack(%x, %x) = %+v, %v; want %+v", a, b, h, err, want)
	}
	if !is && (h != api.Head{} || err != api.ErrForm) {
		t.Errorf("Unpack(%x, %x) = %+v, %v; want ErrForm", a, b, h, err)
	}
	if x, y, e := object.Pack(h); err == api.OK && (x != a || y != b || e != api.OK) {
		t.Errorf("Unpack(%x, %x) = %+v, whose cells are %x, %x, %v", a, b, h, x, y, e)
	}
}

func TestP4_1UnpackBits(t *testing.T) {
	for _, h := range append(plainHeads(), api.Head{Kind: api.TStr}, api.Head{Kind: api.TTable}, api.Head{Kind: api.TProto, Serial: maxCount}) {
		c := wantPacked(h)
		for i := range 64 {
			checkUnpack(t, c[0]^1<<i, c[1])
			checkUnpack(t, c[0], c[1]^1<<i)
			for j := range 64 {
				checkUnpack(t, c[0]^1<<i, c[1]^1<<j)
			}
		}
	}
}

func TestP4_1UnpackLowCells(t *testing.T) {
	for a := range int64(1 << 13) {
		for _, b := range []int64{0, 1, 4096, 4097, 8191, 8192, 4096 * 8192, 4096*8192 + 4096, 4097 * 8192, 8191 * 8192, 1 << 26, 1<<57 - 1<<26, 1 << 57} {
			checkUnpack(t, a, b)
		}
	}
}

func TestP4_1UnpackWrong(t *testing.T) {
	rows := []struct{ a, b int64 }{
		{0, 0}, {3, 0}, {10, 0}, {11, 0}, {15, 0}, // no kind of objects
		{4 + 7<<6, 0},                                            // an age that is none
		{4 + 1<<9, 0}, {4, 1 << 26}, {9 + 3<<9, 0}, {7, 1 << 56}, // Weak, Fin of what is no table
		{4 + 1<<42, 0}, {5, 1 << 57}, {4 - 1<<63, 0}, {5, -1 << 63}, // a bit behind Serial, behind Fin
		{4, 4097}, {4, 8191}, {4, 4097 << 13}, {4, 8191 << 13}, // more than MaxParts
		{-1, 0}, {4, -1}, {-4, -4}, {math.MinInt64, math.MinInt64}, {math.MaxInt64, math.MaxInt64},
	}
	for _, r := range rows {
		if h, err := object.Unpack(r.a, r.b); h != (api.Head{}) || err != api.ErrForm {
			t.Errorf("Unpack(%d, %d) = %+v, %v; want ErrForm", r.a, r.b, h, err)
		}
	}
}
