package table_test

import (
	"math"
	"testing"

	"heirloom/api"
	"heirloom/table"
)

// filled is a store of 3 array slots and 2 nodes, with something in each slot.
func filled(t *testing.T, most int) *table.Mem {
	t.Helper()
	m := table.NewMem(most)
	if err := m.Resize(3, 2); err != api.OK {
		t.Fatalf("Resize(3, 2) = %v", err)
	}
	for i := range 7 {
		m.SetSlot(i, integer(int64(i)+10))
	}
	return m
}

func TestP6_1MemAtFirst(t *testing.T) {
	for _, most := range []int{math.MinInt, -1, 0, 1, 2, 100, math.MaxInt} {
		m := table.NewMem(most)
		expectSizes(t, m, 0, 0)
		for _, i := range []int{math.MinInt, -1, 0, 1, 2, math.MaxInt} {
			m.SetSlot(i, some)
			if v := m.Slot(i); v != null {
				t.Errorf("NewMem(%d): Slot(%d) = %v", most, i, v)
			}
		}
		expectSizes(t, m, 0, 0)
	}
}

func TestP6_1MemSlots(t *testing.T) {
	m := filled(t, 7)
	was := told(m)
	for _, i := range []int{math.MinInt, -7, -1, 7, 8, 14, math.MaxInt} {
		m.SetSlot(i, some)
		if v := m.Slot(i); v != null || told(m) != was {
			t.Errorf("Slot(%d) = %v; %s; want %s", i, v, told(m), was)
		}
	}
	for i := range 7 {
		m := filled(t, 7)
		for _, v := range []api.Value{some, dead(4), null, str(3), value(99, -1), null, null} {
			m.SetSlot(i, v)
			for j := range 7 {
				want := integer(int64(j) + 10)
				if j == i {
					want = v
				}
				if got := m.Slot(j); got != want {
					t.Errorf("SetSlot(%d, %v): Slot(%d) = %v; want %v", i, v, j, got, want)
				}
			}
		}
	}
}

func TestP6_1MemResize(t *testing.T) {
	rows := []struct {
		most, a, n int
		want       api.Errno
	}{
		{100, 0, 0, api.OK}, {100, 1, 0, api.OK}, {100, 3, 0, api.OK}, {100, 0, 1, api.OK}, {100, 5, 2, api.OK}, {100, 0, 32, api.OK},
		{100, 100, 0, api.OK}, {100, 36, 32, api.OK}, {100, 98, 1, api.OK}, // just as many as there is room for
		{100, 101, 0, api.ErrFull}, {100, 37, 32, api.ErrFull}, {100, 99, 1, api.ErrFull}, {100, 0, 64, api.ErrFull},
		{101, 99, 1, api.OK}, {101, 100, 1, api.ErrFull}, {101, 0, 64, api.ErrFull},
		{0, 0, 0, api.OK}, {0, 1, 0, api.ErrFull}, {0, 0, 1, api.ErrFull}, {1, 0, 1, api.ErrFull}, {1, 1, 0, api.OK}, {2, 0, 1, api.OK}, {2, 1, 1, api.ErrFull},
		{-1, 0, 0, api.ErrFull}, {math.MinInt, 0, 0, api.ErrFull}, {-1, 1, 1, api.ErrFull},
		{100, -1, 0, api.ErrArg}, {100, math.MinInt, 0, api.ErrArg}, {100, 0, -1, api.ErrArg}, {100, 0, -2, api.ErrArg}, {100, 0, math.MinInt, api.ErrArg},
		{100, 0, 3, api.ErrArg}, {100, 1, 6, api.ErrArg}, {100, 0, 12, api.ErrArg}, {100, 0, 31, api.ErrArg}, {100, 0, 33, api.ErrArg},
		{10, 0, 63, api.ErrArg}, {10, 11, -1, api.ErrArg}, {10, -1, 64, api.ErrArg}, {-1, -1, 0, api.ErrArg}, {-1, 0, 3, api.ErrArg}, // ErrArg goes ahead of ErrFull
		{100, math.MaxInt, 0, api.ErrFull}, {100, math.MaxInt, 1, api.ErrFull}, {100, 0, 1 << 62, api.ErrFull}, {100, 1, 1 << 62, api.ErrFull}, {100, math.MaxInt, 1 << 62, api.ErrFull},
		{math.MaxInt, math.MaxInt, 1, api.ErrFull}, {math.MaxInt, math.MaxInt - 1, 1, api.ErrFull}, {math.MaxInt, 0, 1 << 62, api.ErrFull}, {math.MaxInt, math.MaxInt, 1 << 62, api.ErrFull},
		{math.MaxInt, math.MaxInt - 2, 1, api.OK}, {math.MaxInt, math.MaxInt, 0, api.OK}, {math.MaxInt, 1 << 61, 1 << 61, api.OK}, // more than memory has
	}
	for _, r := range rows {
		m := table.NewMem(r.most)
		if err := m.Resize(r.a, r.n); err != r.want {
			t.Errorf("%v: Resize = %v", r, err)
		}
		if r.want != api.OK {
			expectSizes(t, m, 0, 0)
			continue
		}
		expectSizes(t, m, r.a, r.n)
		last := r.a + 2*r.n - 1
		m.SetSlot(last, some)
		m.SetSlot(last+1, some)
		if v := m.Slot(last); last >= 0 && v != some {
			t.Errorf("%v: Slot(%d) = %v", r, last, v)
		}
		if v := m.Slot(last + 1); v != null {
			t.Errorf("%v: Slot(%d) = %v", r, last+1, v)
		}
	}
}

// TestP6_1MemResizeAgain: all slots are nil behind a Resize, of the same sizes too; a refused one leaves all as it was.
func TestP6_1MemResizeAgain(t *testing.T) {
	for _, sizes := range [][2]int{{3, 2}, {2, 2}, {4, 2}, {3, 1}, {3, 4}, {0, 0}, {7, 0}, {0, 8}, {16, 0}} {
		m := filled(t, 16)
		if err := m.Resize(sizes[0], sizes[1]); err != api.OK {
			t.Errorf("Resize(%v) = %v", sizes, err)
		}
		expectSizes(t, m, sizes[0], sizes[1])
		expectSlots(t, m, make([]api.Value, sizes[0]+2*sizes[1])...)
		m.Resize(16, 0)
		expectSlots(t, m, make([]api.Value, 16)...)
	}
	for _, sizes := range [][2]int{{-1, 0}, {0, -1}, {3, 3}, {17, 0}, {1, 8}, {0, 16}, {math.MaxInt, 1 << 62}} {
		m := filled(t, 16)
		was := told(m)
		if err := m.Resize(sizes[0], sizes[1]); err == api.OK {
			t.Errorf("Resize(%v) = %v", sizes, err)
		}
		if told(m) != was {
			t.Errorf("Resize(%v) left %s; it was %s", sizes, told(m), was)
		}
	}
}

func TestP6_1MemHash(t *testing.T) {
	rows := []struct {
		v    api.Value
		want uint32
	}{
		{null, 0}, {integer(0), 2}, {integer(1), 0x9e3779b9 ^ 0x7f4a7c17}, {value(api.TStr, 1), 0x9e3779b9 ^ 0x7f4a7c19}, {dead(0), 11},
		{integer(-1), 0x61c88646 ^ 0x80b583ed}, {value(-1, 0), 0}, {value(-2, 0), 1},
	}
	m := table.NewMem(0)
	for _, r := range rows {
		if h := m.Hash(r.v); h != r.want {
			t.Errorf("Hash(%v) = %#x; want %#x", r.v, h, r.want)
		}
	}
	for _, v := range append(allKeys(), noKeys()...) {
		if h := m.Hash(v); h != mixed(v) {
			t.Errorf("Hash(%v) = %#x; want %#x", v, h, mixed(v))
		}
	}
}

// TestP6_1MemApart: what is done to a store is not seen in another.
func TestP6_1MemApart(t *testing.T) {
	a, b := table.NewMem(100), table.NewMem(100)
	add(t, a, ints(1, 5)...)
	expectSizes(t, b, 0, 0)
	add(t, b, str(1))
	expectLen(t, b, 0)
	expectLen(t, a, 5)
	expectGet(t, a, str(1), null)
}

// TestP1NilMem: a Mem that no call made is a store without slots that gets none.
func TestP1NilMem(t *testing.T) {
	var m *table.Mem
	for range 2 {
		expectSizes(t, m, 0, 0)
		for _, i := range []int{math.MinInt, -1, 0, 1, math.MaxInt} {
			m.SetSlot(i, some)
			if v := m.Slot(i); v != null {
				t.Errorf("Slot(%d) = %v", i, v)
			}
			table.Kill(m, i)
			for _, n := range []int{math.MinInt, -1, 0, 1, 3, math.MaxInt} { // ErrNil goes ahead of ErrArg and ErrFull
				if err := m.Resize(i, n); err != api.ErrNil {
					t.Errorf("Resize(%d, %d) = %v", i, n, err)
				}
			}
		}
		for _, k := range allKeys() {
			if h := m.Hash(k); h != 0 {
				t.Errorf("Hash(%v) = %d", k, h)
			}
			if err := table.Set(m, k, some); err != api.ErrNil {
				t.Errorf("Set(%v) = %v", k, err)
			}
			expectGet(t, m, k, null)
		}
		expectLen(t, m, 0)
	}
}

// TestP1ZeroMem: a Mem that is zero has room for no slots.
func TestP1ZeroMem(t *testing.T) {
	m := &table.Mem{}
	expectSizes(t, m, 0, 0)
	m.SetSlot(0, some)
	expectGet(t, m, integer(1), null)
	if err := table.Set(m, integer(1), some); err != api.ErrFull {
		t.Errorf("Set = %v", err)
	}
	if err := m.Resize(0, 0); err != api.OK {
		t.Errorf("Resize(0, 0) = %v", err)
	}
	expectSizes(t, m, 0, 0)
}
