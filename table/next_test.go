package table_test

import (
	"math"
	"slices"
	"testing"

	"heirloom/api"
	"heirloom/table"
)

func TestP6_3Len(t *testing.T) {
	rows := []struct {
		keys []api.Value
		gone []api.Value
		want int
	}{
		{nil, nil, 0}, {ints(1, 1), nil, 1}, {ints(1, 2), nil, 2}, {ints(1, 3), nil, 3}, {ints(1, 4), nil, 4}, {ints(1, 100), nil, 100},
		{ints(2, 9), nil, 0}, {ints(0, 0), nil, 0}, {ints(-3, 0), nil, 0}, {ints(-3, 2), nil, 2}, {strs(9), nil, 0},
		{ints(1, 9), ints(1, 1), 0}, {ints(1, 9), ints(2, 2), 1}, {ints(1, 9), ints(9, 9), 8}, {ints(1, 9), ints(5, 9), 4}, {ints(1, 9), ints(1, 9), 0}, // with a gap: the least one
		{ints(1, 8), ints(5, 5), 4}, {ints(1, 4), ints(4, 4), 3}, {ints(1, 1), ints(1, 1), 0},
		{joined(strs(4), ints(1, 3)), nil, 3}, {joined(strs(4), ints(3, 3), ints(1, 2)), nil, 3}, {joined(ints(3, 3), ints(1, 1)), nil, 1}, // some of them in nodes
		{ints(1, 4097), nil, 4097}, {ints(1, 5000), nil, 5000}, {ints(1, 5000), ints(4500, 4500), 4499}, {ints(1, 5000), ints(4096, 4096), 4095}, // beyond the array slots
		{[]api.Value{float(1), float(2), float(2.5)}, nil, 2}, {[]api.Value{integer(1), value(api.TBool, 2), str(2)}, nil, 1},
	}
	for i, r := range rows {
		for _, turned := range []bool{false, true} {
			keys := slices.Clone(r.keys)
			if turned {
				slices.Reverse(keys)
			}
			m := table.NewMem(1 << 20)
			add(t, m, keys...)
			for _, k := range r.gone {
				set(t, m, k, null)
			}
			if n := table.Len(m); n != r.want {
				t.Errorf("row %d, turned round: %t: Len = %d; want %d", i, turned, n, r.want)
			}
		}
	}
}

// TestP6_3LenInNodes: array slots and nodes beside one another.
func TestP6_3LenInNodes(t *testing.T) {
	s := newShelf(t, 100, low)
	s.Resize(2, 2)
	for i, want := range []int{0, 1, 3, 3, 4, 4} { // behind each of these: 1, 2 and 3 in a node, 4
		switch i {
		case 1:
			s.slots[0], s.slots[4], s.slots[5] = some, integer(3), some
		case 2:
			s.slots[1] = some
		case 3:
			s.slots[2] = integer(4) // without a value
		case 4:
			s.slots[3] = some
		}
		expectLen(t, s, want)
	}
	s.slots[1] = null
	expectLen(t, s, 1)
}

// met are the keys and values that Next goes over, from nil on.
func met(t *testing.T, s table.Store) []pair {
	t.Helper()
	var l []pair
	k, v, err := table.Next(s, null)
	for ; k != null; k, v, err = table.Next(s, k) {
		if err != api.OK || v == null || len(l) > 20000 {
			t.Fatalf("Next behind %v = %v, %v, %v", l[max(len(l)-3, 0):], k, v, err)
		}
		l = append(l, pair{k, v})
	}
	if v != null || err != api.OK {
		t.Fatalf("behind the last one Next = %v, %v, %v", k, v, err)
	}
	return l
}

func TestP6_3NextOfNone(t *testing.T) {
	for _, sizes := range [][2]int{{0, 0}, {1, 0}, {0, 1}, {4, 4}} {
		m := table.NewMem(100)
		m.Resize(sizes[0], sizes[1])
		expectNext(t, m, null, null, null, api.OK)
		for _, k := range []api.Value{integer(1), integer(4)} {
			want := api.OK
			if int(k.N) > sizes[0] {
				want = api.ErrKey
			}
			expectNext(t, m, k, null, null, want)
		}
		expectNext(t, m, str(1), null, null, api.ErrKey)
		expectNext(t, m, integer(0), null, null, api.ErrKey)
	}
}

// places are a store of three array slots and four nodes: the slots 1 and 3 have values, the nodes 0, 2 and 3.
func places(t *testing.T) *shelf {
	s := newShelf(t, 100, low)
	s.array, s.nodes = 3, 4
	s.slots = []api.Value{str(21), null, str(22), str(4), str(23), str(1), null, integer(6), str(24), value(api.TBool, 3), str(25)}
	return s
}

func TestP6_3Next(t *testing.T) {
	s := places(t)
	rows := []struct {
		k, next, v api.Value
		err        api.Errno
	}{
		{null, integer(1), str(21), api.OK},
		{integer(1), integer(3), str(22), api.OK},
		{integer(2), integer(3), str(22), api.OK}, // has its place, and no value
		{integer(3), str(4), str(23), api.OK},
		{str(4), integer(6), str(24), api.OK},
		{str(1), integer(6), str(24), api.OK}, // has its place, and no value
		{integer(6), value(api.TBool, 3), str(25), api.OK},
		{value(api.TBool, 3), null, null, api.OK},                                                                                          // the last one
		{float(1), integer(3), str(22), api.OK}, {float(2), integer(3), str(22), api.OK}, {float(6), value(api.TBool, 3), str(25), api.OK}, // as ints
		{integer(0), null, null, api.ErrKey}, {integer(4), null, null, api.ErrKey}, {integer(-1), null, null, api.ErrKey}, {str(2), null, null, api.ErrKey},
		{str(6), null, null, api.ErrKey}, {value(api.TBool, 1), null, null, api.ErrKey}, {float(1.5), null, null, api.ErrKey}, {value(api.TTable, 4), null, null, api.ErrKey},
		{integer(math.MaxInt64), null, null, api.ErrKey}, {integer(math.MinInt64), null, null, api.ErrKey},
	}
	was := told(s)
	for _, r := range rows {
		expectNext(t, s, r.k, r.next, r.v, r.err)
	}
	for _, k := range noKeys() {
		if k != null {
			expectNext(t, s, k, null, null, api.ErrKey)
		}
	}
	if told(s) != was || s.writes != 0 || s.asked != 0 {
		t.Errorf("Next left %s; it was %s", told(s), was)
	}
	want := []pair{{integer(1), str(21)}, {integer(3), str(22)}, {str(4), str(23)}, {integer(6), str(24)}, {value(api.TBool, 3), str(25)}}
	if l := met(t, s); !slices.Equal(l, want) {
		t.Errorf("met are %v; want %v", l, want)
	}
}

// TestP6_3NextLast: the last value lies in an array slot, in the first node, in the last one.
func TestP6_3NextLast(t *testing.T) {
	s := places(t)
	set(t, s, value(api.TBool, 3), null)
	expectNext(t, s, integer(6), null, null, api.OK)
	set(t, s, integer(6), null)
	expectNext(t, s, str(4), null, null, api.OK)
	expectNext(t, s, str(1), null, null, api.OK)
	expectNext(t, s, integer(6), null, null, api.OK)
	set(t, s, str(4), null)
	expectNext(t, s, integer(3), null, null, api.OK)
	expectNext(t, s, integer(2), integer(3), str(22), api.OK)
	set(t, s, integer(3), null)
	expectNext(t, s, integer(1), null, null, api.OK)
	set(t, s, integer(1), null)
	expectNext(t, s, null, null, null, api.OK)
	expectNext(t, s, integer(1), null, null, api.OK)
	expectNext(t, s, str(4), null, null, api.OK)
}

// TestP6_3NoKeys: a node is met, and comes in again, by its key alone; values that lie beside none are nobody's.
func TestP6_3NoKeys(t *testing.T) {
	for _, no := range noKeys() {
		s := places(t)
		s.slots[3], s.slots[7] = no, no
		want := []pair{{integer(1), str(21)}, {integer(3), str(22)}, {value(api.TBool, 3), str(25)}}
		if l := met(t, s); !slices.Equal(l, want) {
			t.Errorf("%v lies in nodes: met are %v; want %v", no, l, want)
		}
		if no == null { // the new key has a free node
			continue
		}
		set(t, s, str(9), some)
		expectSizes(t, s, 1, 4) // of 1, 3, a bool and a string
		expectSlots(t, s, str(21), value(api.TBool, 3), str(25), str(9), some, null, null, integer(3), str(22))
	}
}

// TestP6_3NextOfDead: a key that was killed has its place no more; those ahead of it lead behind it.
func TestP6_3NextOfDead(t *testing.T) {
	s := places(t)
	table.Kill(s, 4)
	expectNext(t, s, str(4), null, null, api.ErrKey)
	expectNext(t, s, dead(4), null, null, api.ErrKey)
	expectNext(t, s, integer(3), integer(6), str(24), api.OK)
	table.Kill(s, 8) // a number keeps its place
	expectNext(t, s, integer(6), value(api.TBool, 3), str(25), api.OK)
	table.Kill(s, 0)
	expectNext(t, s, integer(1), integer(3), str(22), api.OK)
}

func TestP6_4Kill(t *testing.T) {
	rows := []struct {
		i    int
		want map[int]api.Value // what lies otherwise then
	}{
		{0, map[int]api.Value{0: null}}, {1, nil}, {2, map[int]api.Value{2: null}}, // array slots
		{3, nil}, {5, nil}, {7, nil}, {9, nil}, // nodes' keys
		{4, map[int]api.Value{4: null, 3: dead(4)}}, {6, map[int]api.Value{5: dead(1)}}, // objects, with a value and without one
		{8, map[int]api.Value{8: null}}, {10, map[int]api.Value{10: null}}, // no objects
		{-1, nil}, {-2, nil}, {math.MinInt, nil}, {math.MinInt + 3, nil}, {11, nil}, {12, nil}, {13, nil}, {math.MaxInt, nil}, {math.MaxInt - 1, nil},
	}
	for _, r := range rows {
		s := places(t)
		want := slices.Clone(s.slots)
		for i, v := range r.want {
			want[i] = v
		}
		for range 2 { // the second time nothing more
			table.Kill(s, r.i)
			if !slices.Equal(s.slots, want) || s.array != 3 || s.nodes != 4 || s.asked != 0 {
				t.Errorf("Kill(%d): %v; want %v", r.i, s.slots, want)
			}
		}
	}
}

// TestP6_4KillKeys: keys of all types: those that are objects are dead then, with their N.
func TestP6_4KillKeys(t *testing.T) {
	for _, k := range append(allKeys(), dead(3), null) {
		for _, array := range []int{0, 1, 2, 7} {
			for node := range 2 {
				m := table.NewMem(100)
				m.Resize(array, 2)
				at := array + 2*node
				m.SetSlot(at, k)
				m.SetSlot(at+1, some)
				table.Kill(m, at)
				if m.Slot(at) != k || m.Slot(at+1) != some {
					t.Errorf("Kill(%d) of a key's place left %v, %v", at, m.Slot(at), m.Slot(at+1))
				}
				table.Kill(m, at+1)
				want := k
				if k.T >= 4 && k.T <= 9 {
					want = api.Value{T: 11, N: k.N}
				}
				if m.Slot(at) != want || m.Slot(at+1) != null {
					t.Errorf("Kill(%d) of the key %v left %v, %v", at+1, k, m.Slot(at), m.Slot(at+1))
				}
			}
		}
	}
}

// TestP6_4KillArrayObjects: a value that is an object goes; the array has no keys that could be dead.
func TestP6_4KillArrayObjects(t *testing.T) {
	m := table.NewMem(100)
	set(t, m, integer(1), str(1), integer(2), value(api.TTable, 2), integer(3), value(api.TProto, 3))
	table.Kill(m, 1)
	expectSlots(t, m, str(1), null, value(api.TProto, 3), null)
	table.Kill(m, 0)
	table.Kill(m, 2)
	expectSlots(t, m, null, null, null, null)
	expectLen(t, m, 0)
}

// TestP6_4KillNoSlots: there is no place in a store without slots.
func TestP6_4KillNoSlots(t *testing.T) {
	s := newShelf(t, 100, low)
	for _, i := range []int{math.MinInt, -1, 0, 1, 2, math.MaxInt} {
		table.Kill(s, i)
	}
	if s.writes != 0 || s.asked != 0 {
		t.Errorf("%d SetSlots, %d Resizes", s.writes, s.asked)
	}
}

// TestP6_4Again: an object whose key was killed is a new key.
func TestP6_4Again(t *testing.T) {
	m := table.NewMem(100)
	k := keysIn(0, 2, 2)
	add(t, m, k...)
	table.Kill(m, 1)
	expectGet(t, m, k[0], null)
	expectGet(t, m, dead(k[0].N), null)
	expectGet(t, m, k[1], integer(2))
	set(t, m, k[0], some)
	expectSizes(t, m, 0, 2)
	expectSlots(t, m, k[1], integer(2), k[0], some)
}
