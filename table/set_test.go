package table_test

import (
	"math"
	"testing"

	"heirloom/api"
	"heirloom/table"
)

// TestP6_1Example is the chapter's.
func TestP6_1Example(t *testing.T) {
	a, b, c, d, x := str(11), str(12), str(13), str(14), str(15)
	m := table.NewMem(100)
	set(t, m, integer(1), a)
	expectSizes(t, m, 1, 0)
	set(t, m, integer(2), b)
	expectSizes(t, m, 2, 0)
	set(t, m, x, c)
	expectSizes(t, m, 2, 1)
	expectLen(t, m, 2)
	set(t, m, integer(2), null)
	expectLen(t, m, 1)
	expectNext(t, m, integer(2), x, c, api.OK)
	set(t, m, float(1), d)
	expectGet(t, m, integer(1), d)
}

// TestP6_1NoSlots: a store without slots has no values; a nil set there asks for none.
func TestP6_1NoSlots(t *testing.T) {
	s := newShelf(t, 100, mixed)
	for _, k := range allKeys() {
		expectGet(t, s, k, null)
		set(t, s, k, null)
	}
	expectLen(t, s, 0)
	if s.asked != 0 || s.writes != 0 {
		t.Errorf("%d Resizes, %d SetSlots", s.asked, s.writes)
	}
}

// TestP6_1OneKey: a key of any type has its value, and no other key has one.
func TestP6_1OneKey(t *testing.T) {
	for _, k := range allKeys() {
		for _, v := range []api.Value{integer(0), float(math.NaN()), bitsOf(0x7ff0000000000001), value(api.TBool, 0), str(7), value(api.TNative, 3), value(99, 99), k} {
			m := table.NewMem(2)
			set(t, m, k, v)
			for _, other := range allKeys() {
				want := null
				if other == k {
					want = v
				}
				expectGet(t, m, other, want)
			}
			for _, no := range noKeys() {
				expectGet(t, m, no, null)
			}
			if k == integer(1) {
				expectSlots(t, m, v)
			} else {
				expectSizes(t, m, 0, 1)
				expectSlots(t, m, k, v)
			}
		}
	}
}

// TestP6_1AllKeys: keys of all types beside one another.
func TestP6_1AllKeys(t *testing.T) {
	for _, hash := range []func(api.Value) uint32{mixed, low, one} {
		s := newShelf(t, 1000, hash)
		add(t, s, allKeys()...)
		for i, k := range allKeys() {
			expectGet(t, s, k, integer(int64(i)+1))
		}
		for _, k := range append(noKeys(), integer(5), float(2.5), value(api.TBool, 2), str(3)) {
			expectGet(t, s, k, null)
		}
	}
}

// TestP6_1WholeFloats: a float that is whole is the int as a key; others are keys of their own.
func TestP6_1WholeFloats(t *testing.T) {
	rows := []struct {
		f float64
		n int64
	}{
		{1, 1}, {2, 2}, {0, 0}, {math.Copysign(0, -1), 0}, {-3, -3}, {1 << 53, 1 << 53}, {-(1 << 63), math.MinInt64}, {4096, 4096}, {1 << 62, 1 << 62},
	}
	for _, r := range rows {
		for _, ahead := range [][]api.Value{nil, {integer(1), integer(2)}, {str(1)}, {integer(2), str(1), str(2)}} {
			for _, keys := range [][2]api.Value{{float(r.f), integer(r.n)}, {integer(r.n), float(r.f)}} {
				m := table.NewMem(100)
				add(t, m, ahead...)
				set(t, m, keys[0], str(21))
				expectGet(t, m, keys[1], str(21))
				was := [2]int{m.Array(), m.Nodes()}
				set(t, m, keys[1], str(22))
				expectGet(t, m, keys[0], str(22))
				expectSizes(t, m, was[0], was[1])
				for _, v := range slotsOf(m) {
					if v == float(r.f) {
						t.Errorf("the key lies as %v", v)
					}
				}
				for _, k := range ahead {
					if k != integer(r.n) && table.Get(m, k) == null {
						t.Errorf("%v has no value any more", k)
					}
				}
			}
		}
	}
	m := table.NewMem(100)
	apart := []api.Value{float(1.5), integer(1), integer(2), float(1 << 63), integer(math.MaxInt64), float(math.Inf(1)), float(0.5), integer(0), float(math.SmallestNonzeroFloat64)}
	add(t, m, apart...)
	for i, k := range apart {
		expectGet(t, m, k, integer(int64(i)+1))
	}
}

// TestP6_1Types: keys of unlike types are unlike, whatever their N is.
func TestP6_1Types(t *testing.T) {
	m := table.NewMem(1000)
	types := []int{api.TBool, api.TInt, api.TFloat, api.TStr, api.TTable, api.TFunc, api.TBox, api.TThread, api.TProto, api.TNative}
	for _, n := range []int64{1, 2, 3} {
		for i, typ := range types {
			set(t, m, value(typ, n), integer(100*n+int64(i)))
		}
	}
	for _, n := range []int64{1, 2, 3} {
		for i, typ := range types {
			expectGet(t, m, value(typ, n), integer(100*n+int64(i)))
		}
	}
}

// TestP6_1ArrayEnds: keys at the ends of the array slots, and beside them.
func TestP6_1ArrayEnds(t *testing.T) {
	s := newShelf(t, 100, low)
	s.Resize(4, 2)
	for i, v := range []api.Value{str(1), str(2), str(3), str(4), integer(0), str(5), integer(5), str(6)} {
		s.slots[i] = v
	}
	rows := []struct{ k, want api.Value }{
		{integer(1), str(1)}, {integer(2), str(2)}, {integer(4), str(4)}, {float(4), str(4)}, {float(1), str(1)},
		{integer(0), str(5)}, {integer(5), str(6)}, {float(5), str(6)}, {integer(-1), null}, {integer(6), null}, {integer(1<<32 + 1), null},
		{integer(math.MaxInt64), null}, {integer(math.MinInt64), null}, {value(api.TBool, 1), null}, {str(1), null}, {float(1.5), null},
	}
	for _, r := range rows {
		expectGet(t, s, r.k, r.want)
	}
	set(t, s, integer(4), str(9), integer(1), str(8), integer(5), str(7), integer(0), str(6))
	expectSlots(t, s, str(8), str(2), str(3), str(9), integer(0), str(6), integer(5), str(7))
	if s.asked != 1 {
		t.Errorf("%d Resizes", s.asked)
	}
}

// TestP6_1Way: a key lies in the first free node from the one on that its hash tells, and behind the last one comes the first.
func TestP6_1Way(t *testing.T) {
	rows := []struct {
		hashes []uint32 // of the strings 1, 2, 3, ..
		want   [4]int64 // which string lies in which node, 0: none
	}{
		{[]uint32{0}, [4]int64{1, 0, 0, 0}},
		{[]uint32{3}, [4]int64{0, 0, 0, 1}},
		{[]uint32{7}, [4]int64{0, 0, 0, 1}}, // modulo 4
		{[]uint32{math.MaxUint32}, [4]int64{0, 0, 0, 1}},
		{[]uint32{1 << 31}, [4]int64{1, 0, 0, 0}},
		{[]uint32{1, 1}, [4]int64{0, 1, 2, 0}},
		{[]uint32{1, 1, 1, 1}, [4]int64{4, 1, 2, 3}},
		{[]uint32{3, 3}, [4]int64{2, 0, 0, 1}}, // from the last node to the first
		{[]uint32{3, 3, 3}, [4]int64{2, 3, 0, 1}},
		{[]uint32{2, 2, 2}, [4]int64{3, 0, 1, 2}},
		{[]uint32{3, 0, 3}, [4]int64{2, 3, 0, 1}},
		{[]uint32{3, 3, 0, 0}, [4]int64{2, 3, 4, 1}},
		{[]uint32{0, 1, 2, 3}, [4]int64{1, 2, 3, 4}},
		{[]uint32{3, 2, 1, 0}, [4]int64{4, 3, 2, 1}},
	}
	for _, r := range rows {
		s := newShelf(t, 100, func(v api.Value) uint32 { return append(r.hashes, r.hashes...)[v.N-1] })
		s.Resize(0, 4)
		var keys []api.Value
		for i := range r.hashes {
			keys = append(keys, str(int64(i)+1))
		}
		add(t, s, keys...)
		for node, h := range r.want {
			want := pair{}
			if h != 0 {
				want = pair{str(h), integer(h)}
			}
			if got := (pair{s.slots[2*node], s.slots[2*node+1]}); got != want {
				t.Errorf("%v: node %d is %v; want %v", r.hashes, node, got, want)
			}
		}
		for _, k := range keys {
			expectGet(t, s, k, integer(k.N))
			expectGet(t, s, str(k.N+int64(len(keys))), null) // of the same hash
		}
		if s.asked != 1 {
			t.Errorf("%v: %d Resizes", r.hashes, s.asked)
		}
	}
}

// TestP6_1NodeWithoutValue: a node whose key has no value is not free, and does not end the way of another key.
func TestP6_1NodeWithoutValue(t *testing.T) {
	s := newShelf(t, 100, one)
	s.Resize(0, 4)
	add(t, s, str(1), str(2), str(3))
	set(t, s, str(1), null, str(2), null)
	expectSlots(t, s, str(2), null, str(3), integer(3), null, null, str(1), null)
	expectGet(t, s, str(3), integer(3))
	expectGet(t, s, str(1), null)
	set(t, s, str(4), integer(4)) // the first free one is the last one of the way
	expectSlots(t, s, str(2), null, str(3), integer(3), str(4), integer(4), str(1), null)
	set(t, s, str(2), integer(5)) // its own node has it again
	expectSlots(t, s, str(2), integer(5), str(3), integer(3), str(4), integer(4), str(1), null)
	if s.asked != 1 {
		t.Errorf("%d Resizes", s.asked)
	}
	set(t, s, str(5), integer(6)) // no node is free: the one without a value goes
	expectSlots(t, s, str(3), integer(3), str(4), integer(4), str(5), integer(6), str(2), integer(5))
	expectGet(t, s, str(1), null)
	expectGet(t, s, str(3), integer(3))
	expectGet(t, s, str(5), integer(6))
}

// TestP6_1DeadOnTheWay: a node whose key is dead is gone by, ahead of a renewal, and is none behind it.
func TestP6_1DeadOnTheWay(t *testing.T) {
	s := newShelf(t, 100, one)
	s.Resize(0, 4)
	add(t, s, str(1), str(2), str(3))
	table.Kill(s, 7)
	expectGet(t, s, str(3), integer(3))
	expectGet(t, s, str(1), null)
	set(t, s, str(1), integer(4)) // the one that is gone has its node no more
	expectSlots(t, s, str(2), integer(2), str(3), integer(3), str(1), integer(4), dead(1), null)
	set(t, s, str(5), integer(5))
	expectSlots(t, s, str(3), integer(3), str(1), integer(4), str(5), integer(5), str(2), integer(2))
}

// TestP6_1SetNil: nil for a key that is there, and for one that is not.
func TestP6_1SetNil(t *testing.T) {
	s := newShelf(t, 100, one)
	add(t, s, integer(1), integer(2), str(1), str(2))
	expectSizes(t, s, 2, 2)
	asked, writes := s.asked, s.writes
	for _, k := range []api.Value{integer(3), integer(0), str(3), float(1.5), value(api.TBool, 1)} {
		set(t, s, k, null)
		expectGet(t, s, k, null)
	}
	if s.asked != asked || s.writes != writes {
		t.Errorf("%d Resizes, %d SetSlots for keys that are not there", s.asked-asked, s.writes-writes)
	}
	expectSlots(t, s, integer(1), integer(2), str(2), integer(4), str(1), integer(3))
	set(t, s, float(2), null, str(2), null, str(2), null)
	expectSlots(t, s, integer(1), null, str(2), null, str(1), integer(3))
	set(t, s, integer(2), some, str(2), some)
	expectSlots(t, s, integer(1), some, str(2), some, str(1), integer(3))
	if s.asked != asked {
		t.Errorf("%d Resizes", s.asked-asked)
	}
}

func TestP6_1SetRefused(t *testing.T) {
	for _, s := range []table.Store{table.NewMem(100), table.NewMem(0), newShelf(t, 100, one), newShelf(t, 0, one)} {
		if s.Resize(2, 2) == api.OK {
			add(t, s, integer(1), integer(2), str(1), str(2))
		}
		was := told(s)
		refuse := func(k, v api.Value) {
			if err := table.Set(s, k, v); err != api.ErrKey {
				t.Errorf("Set(%v, %v) = %v", k, v, err)
			}
			if told(s) != was {
				t.Errorf("Set(%v, %v) left %s; it was %s", k, v, told(s), was)
			}
		}
		for _, k := range noKeys() {
			for _, v := range []api.Value{null, some, dead(1), k} { // ErrKey goes ahead of a lack of room
				refuse(k, v)
			}
		}
		for _, k := range allKeys() {
			refuse(k, dead(k.N))
			refuse(k, dead(0))
		}
	}
}

// TestP6_1NoKeyThere: what is no key has no value, though a node has it.
func TestP6_1NoKeyThere(t *testing.T) {
	for _, k := range noKeys() {
		m := table.NewMem(2)
		m.Resize(0, 1)
		m.SetSlot(0, k)
		m.SetSlot(1, some)
		expectGet(t, m, k, null)
		if err := table.Set(m, k, str(1)); err != api.ErrKey {
			t.Errorf("Set(%v) = %v", k, err)
		}
		if k != null {
			expectNext(t, m, k, null, null, api.ErrKey)
		}
		expectSlots(t, m, k, some)
	}
}

// TestP1NilStore: nothing is done with a store that is nil.
func TestP1NilStore(t *testing.T) {
	for _, k := range append(allKeys(), noKeys()...) {
		expectGet(t, nil, k, null)
		for _, v := range []api.Value{null, some, dead(1)} { // ErrNil goes ahead of ErrKey
			if err := table.Set(nil, k, v); err != api.ErrNil {
				t.Errorf("Set(nil, %v, %v) = %v", k, v, err)
			}
		}
		expectNext(t, nil, k, null, null, api.ErrNil)
	}
	expectLen(t, nil, 0)
	for _, i := range []int{math.MinInt, -1, 0, 1, math.MaxInt} {
		table.Kill(nil, i)
	}
}

// liar says that it has other slots, and has not.
type liar struct{ *table.Mem }

func (liar) Resize(a, n int) api.Errno { return api.OK }

// odd tells sizes that no store has.
type odd struct {
	*table.Mem
	a, n int
}

func (o odd) Array() int { return o.a }
func (o odd) Nodes() int { return o.n }

// TestP1OddStores: also of a store that is not as a store must be, calls end.
func TestP1OddStores(t *testing.T) {
	stores := []table.Store{liar{table.NewMem(0)}, liar{filled(t, 7)}}
	for _, a := range []int{math.MinInt, -1, 0, 3} {
		for _, n := range []int{math.MinInt, -1, 0, 3, 5} {
			stores = append(stores, odd{table.NewMem(100), a, n}, odd{filled(t, 7), a, n})
		}
	}
	for _, s := range stores {
		for _, k := range append(allKeys(), noKeys()...) {
			table.Get(s, k)
			table.Set(s, k, some)
			table.Set(s, k, null)
			table.Next(s, k)
		}
		table.Len(s)
		for i := -2; i < 20; i++ {
			table.Kill(s, i)
		}
	}
	if err := table.Set(liar{table.NewMem(0)}, str(1), some); err != api.ErrFull {
		t.Errorf("Set = %v", err)
	}
}
