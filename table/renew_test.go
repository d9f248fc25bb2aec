package table_test

import (
	"slices"
	"testing"

	"heirloom/api"
	"heirloom/table"
)

// full is a store without a free node that has these keys, ints from 1 on in array slots, and has not the last one of them.
func full(t *testing.T, most int, keys []api.Value) *shelf {
	t.Helper()
	s := newShelf(t, most, low)
	for _, k := range keys[:len(keys)-1] {
		if k.T == api.TInt && k.N > 0 {
			s.array = max(s.array, int(k.N))
		}
	}
	if last := keys[len(keys)-1]; last.T == api.TInt && last.N > 0 && int(last.N) <= s.array {
		t.Fatalf("the key %v has an array slot", last)
	}
	s.slots = make([]api.Value, s.array)
	for i, k := range keys[:len(keys)-1] {
		if k.T == api.TInt && k.N > 0 {
			s.slots[k.N-1] = integer(int64(i) + 1)
			continue
		}
		s.nodes++
		s.slots = append(s.slots, k, integer(int64(i)+1))
	}
	return s
}

// strs are so many strings.
func strs(n int) []api.Value {
	var l []api.Value
	for h := range n {
		l = append(l, str(int64(h)+1))
	}
	return l
}

func joined(l ...[]api.Value) []api.Value { return slices.Concat(l...) }

// TestP6_2Sizes: which sizes a store is asked to have, for all of its keys and one more.
func TestP6_2Sizes(t *testing.T) {
	type row struct {
		keys []api.Value // the last one is the new one
		a, n int
	}
	rows := []row{
		{ints(1, 1), 1, 0}, {ints(2, 2), 0, 1}, {ints(1, 2), 2, 0}, {ints(1, 3), 4, 0}, {ints(1, 4), 4, 0}, {ints(1, 5), 8, 0},
		{ints(0, 0), 0, 1}, {ints(-1, 0), 0, 2}, {ints(-5, 1), 1, 8}, {ints(0, 4), 4, 1},
		{strs(1), 0, 1}, {strs(2), 0, 2}, {strs(3), 0, 4}, {strs(4), 0, 4}, {strs(5), 0, 8}, {strs(8), 0, 8}, {strs(9), 0, 16},
		{strs(1024), 0, 1024}, {strs(1025), 0, 2048},
		{joined(ints(1, 2), strs(1)), 2, 1}, {joined(ints(1, 3), strs(2)), 4, 2}, {joined(strs(3), ints(1, 1)), 1, 4}, {joined(strs(2), ints(2, 2)), 0, 4},
		{joined(ints(1, 1), ints(5, 8)), 8, 0}, // 1 alone would do, the greatest one is taken
		{joined(ints(1, 2), ints(8, 8)), 2, 1}, // 3 of 8
		{joined(ints(1, 2), ints(6, 8)), 8, 0}, // 5 of 8
		{joined(ints(1, 2), ints(7, 8)), 2, 2}, // 4 of 8
		{joined(ints(1, 1), ints(3, 3)), 1, 1}, // 2 of 4
		{joined(ints(2, 2), ints(4, 4)), 0, 2}, // 2 of 4, and 1 of 2
		{joined(ints(2, 2), ints(3, 4)), 4, 0}, // 3 of 4
		{joined(ints(1, 1), ints(100, 100)), 1, 1},
		{[]api.Value{value(api.TBool, 1), value(api.TNative, 2), float(3.5), str(4)}, 0, 4}, // no ints
		{ints(1, 4096), 4096, 0}, {ints(1, 4097), 4096, 1}, {ints(1, 4098), 4096, 2}, {ints(1, 8192), 4096, 4096}, {ints(1, 8193), 4096, 8192},
		{joined(ints(1, 4096), ints(1<<32+1, 1<<32+1)), 4096, 1}, {joined(ints(1, 4096), ints(0, 0)), 4096, 1}, {joined(ints(1, 2049), strs(1)), 4096, 1},
		{ints(4097, 8192), 0, 4096}, {ints(2000, 4096), 4096, 0}, // 2097 of 4096
	}
	for k := 1; k <= 12; k++ {
		half, all := int64(1)<<(k-1), int64(1)<<k
		rows = append(rows,
			row{ints(1, half), int(half), 0},     // just half of 2^k, all of the half
			row{ints(1, half+1), int(all), 0},    // just more than half
			row{ints(half+1, all), 0, int(half)}, // just half, none below
			row{ints(half, all), int(all), 0},    // just more than half
			row{ints(1, all), int(all), 0},       // all
			row{joined(ints(1, half), strs(1)), int(half), 1},
			row{joined(ints(1, half+1), strs(3)), int(all), 4},
		)
	}
	for _, r := range rows {
		s := full(t, 1<<20, r.keys)
		set(t, s, r.keys[len(r.keys)-1], integer(int64(len(r.keys))))
		if s.array != r.a || s.nodes != r.n || s.asked != 1 {
			t.Errorf("%d keys, from %v to %v: sizes %d, %d by %d Resizes; want %d, %d", len(r.keys), r.keys[0], r.keys[len(r.keys)-1], s.array, s.nodes, s.asked, r.a, r.n)
		}
		for i, k := range r.keys {
			if v := table.Get(s, k); v != integer(int64(i)+1) {
				t.Fatalf("%d keys: Get(%v) = %v", len(r.keys), k, v)
			}
		}
	}
}

// TestP6_2Between: there is no renewal while a node is free, and one as soon as there are more keys than nodes.
func TestP6_2Between(t *testing.T) {
	s := newShelf(t, 1<<20, mixed)
	for i, k := range strs(200) {
		was := s.asked
		set(t, s, k, some)
		nodes := 1
		for nodes < i+1 {
			nodes *= 2
		}
		expectSizes(t, s, 0, nodes)
		if renewed := s.asked != was; renewed != (nodes == 1 || nodes/2 == i) {
			t.Errorf("%d keys: renewed: %t", i+1, renewed)
		}
	}
	s = newShelf(t, 1<<20, mixed)
	for i := range int64(5000) { // each array is full ahead of the next one
		set(t, s, integer(i+1), some)
		a, n := 1, 0
		for a <= int(i) && a < 4096 {
			a *= 2
		}
		for n < int(i+1)-a {
			n = max(1, 2*n)
		}
		if s.array != a || s.nodes != n {
			t.Fatalf("%d keys: sizes %d, %d; want %d, %d", i+1, s.array, s.nodes, a, n)
		}
	}
	expectLen(t, s, 5000)
}

// TestP6_2IntsInNodes: an int lies in a free node, also if an array slot would be right, till a renewal.
func TestP6_2IntsInNodes(t *testing.T) {
	s := newShelf(t, 100, low)
	add(t, s, str(1), str(2), str(3)) // 4 nodes, one of them free
	set(t, s, integer(1), some)
	expectSizes(t, s, 0, 4)
	expectSlots(t, s, integer(1), some, str(1), integer(1), str(2), integer(2), str(3), integer(3))
	expectLen(t, s, 1)
	set(t, s, integer(2), str(9))
	expectSizes(t, s, 2, 4)
	expectSlots(t, s, some, str(9), null, null, str(1), integer(1), str(2), integer(2), str(3), integer(3))
}

// TestP6_2Order: the keys come in again array slots first, then nodes, both rising, then the new one.
func TestP6_2Order(t *testing.T) {
	s := newShelf(t, 100, one) // all ways begin at the last node
	s.Resize(4, 4)
	for i, v := range []api.Value{null, str(21), null, str(22), str(1), str(23), str(2), str(24), str(3), null, str(4), str(25)} {
		s.slots[i] = v
	}
	set(t, s, str(5), str(26))
	expectSizes(t, s, 0, 8)
	expectSlots(t, s,
		integer(4), str(22), str(1), str(23), str(2), str(24), str(4), str(25), str(5), str(26), null, null, null, null, integer(2), str(21))

	s = newShelf(t, 100, one) // array slots come to be nodes, and nodes array slots
	s.Resize(2, 4)
	for i, v := range []api.Value{str(21), null, integer(4), str(22), str(1), str(23), integer(3), str(24), integer(9), str(25)} {
		s.slots[i] = v
	}
	set(t, s, str(2), str(26))
	expectSizes(t, s, 4, 4)
	expectSlots(t, s,
		str(21), null, str(24), str(22), integer(9), str(25), str(2), str(26), null, null, str(1), str(23))

	s = newShelf(t, 100, one) // the new one takes an array slot that there was not
	s.Resize(2, 1)
	for i, v := range []api.Value{str(21), str(22), str(1), str(23)} {
		s.slots[i] = v
	}
	set(t, s, float(4), str(24))
	expectSizes(t, s, 4, 1)
	expectSlots(t, s, str(21), str(22), null, str(24), str(1), str(23))
}

// TestP6_2WithoutValues: keys without a value, dead ones too, do not count, and are not there behind a renewal.
func TestP6_2WithoutValues(t *testing.T) {
	s := newShelf(t, 100, low)
	add(t, s, joined(ints(1, 4), strs(4))...)
	expectSizes(t, s, 4, 4)
	set(t, s, integer(1), null, integer(2), null, integer(3), null, str(2), null)
	table.Kill(s, 4+2*3+1) // of str(3)
	set(t, s, str(6), some)
	expectSizes(t, s, 0, 4) // left: 4, the strings 4, 1, 6
	expectSlots(t, s, integer(4), integer(4), str(4), integer(8), str(1), integer(5), str(6), some)
	for _, k := range []api.Value{integer(1), integer(2), integer(3), str(2), str(3)} {
		expectGet(t, s, k, null)
		expectNext(t, s, k, null, null, api.ErrKey)
	}
	for _, k := range []api.Value{integer(4), str(1), str(4)} {
		set(t, s, k, null)
	}
	set(t, s, str(7), some) // fewer nodes than there were
	expectSizes(t, s, 0, 2)
	expectSlots(t, s, str(6), some, str(7), some)
	set(t, s, str(6), null, str(7), null, integer(1), some)
	expectSizes(t, s, 1, 0)
	expectSlots(t, s, some)
}

// TestP6_2Same: a renewal may ask for the sizes that there are.
func TestP6_2Same(t *testing.T) {
	s := newShelf(t, 4, low)
	add(t, s, str(1), str(2))
	for h := int64(3); h < 20; h++ {
		set(t, s, str(h-2), null, str(h), some)
		expectSizes(t, s, 0, 2)
		expectGet(t, s, str(h), some)
		expectGet(t, s, str(h-2), null)
	}
}

// TestP6_2Refused: a store that will not have other sizes is left as it was, and its error is told.
func TestP6_2Refused(t *testing.T) {
	for _, want := range []api.Errno{api.ErrFull, api.ErrMany, api.ErrArg, api.ErrNil, api.ErrState, 99, -1} {
		for _, keys := range [][]api.Value{ints(1, 1), ints(1, 5), strs(1), strs(5), joined(ints(1, 4), strs(3)), joined(strs(4), ints(1, 1))} {
			s := full(t, 1<<20, keys)
			was, writes := told(s), s.writes
			s.refuses = want
			for range 2 {
				if err := table.Set(s, keys[len(keys)-1], some); err != want {
					t.Errorf("Set = %v; want %v", err, want)
				}
				if told(s) != was || s.writes != writes {
					t.Errorf("a refused Set left %s; it was %s", told(s), was)
				}
			}
			if s.asked != 2 {
				t.Errorf("%d Resizes", s.asked)
			}
			s.refuses = api.OK
			set(t, s, keys[len(keys)-1], some)
			expectGet(t, s, keys[len(keys)-1], some)
		}
	}
}

// TestP6_2Room: just as many slots as there is room for, and one more.
func TestP6_2Room(t *testing.T) {
	rows := []struct {
		keys []api.Value
		need int // slots
	}{
		{ints(1, 1), 1}, {strs(1), 2}, {ints(1, 3), 4}, {strs(3), 8}, {joined(ints(1, 2), strs(1)), 4}, {ints(1, 4097), 4098}, {ints(1, 2049), 4096},
	}
	for _, r := range rows {
		last := r.keys[len(r.keys)-1]
		m := table.NewMem(r.need)
		add(t, m, r.keys...)
		expectGet(t, m, last, integer(int64(len(r.keys))))
		m = table.NewMem(r.need - 1)
		add(t, m, r.keys[:len(r.keys)-1]...)
		was := told(m)
		if err := table.Set(m, last, some); err != api.ErrFull {
			t.Errorf("%d slots: Set = %v", r.need-1, err)
		}
		if told(m) != was {
			t.Errorf("%d slots: a refused Set changed the store", r.need-1)
		}
		set(t, m, last, null)                      // asks for no room
		for _, k := range r.keys[:len(r.keys)-1] { // nor does a key that is there
			set(t, m, k, some)
		}
	}
	for _, most := range []int{0, -1, -100} {
		m := table.NewMem(most)
		for _, k := range allKeys() {
			if err := table.Set(m, k, some); err != api.ErrFull {
				t.Errorf("NewMem(%d): Set(%v) = %v", most, k, err)
			}
			set(t, m, k, null)
		}
		expectSizes(t, m, 0, 0)
	}
}
