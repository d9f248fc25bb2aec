package table_test

import (
	"fmt"
	"math"
	"slices"
	"testing"

	"heirloom/api"
	"heirloom/table"
)

func integer(n int64) api.Value      { return api.Value{T: api.TInt, N: n} }
func float(f float64) api.Value      { return api.Value{T: api.TFloat, N: int64(math.Float64bits(f))} }
func bitsOf(b uint64) api.Value      { return api.Value{T: api.TFloat, N: int64(b)} }
func str(h int64) api.Value          { return api.Value{T: api.TStr, N: h} }
func dead(h int64) api.Value         { return api.Value{T: api.TDead, N: h} }
func value(t int, n int64) api.Value { return api.Value{T: t, N: n} }

var (
	null = api.Value{}
	some = api.Value{T: api.TBool, N: 1}
)

// noKeys are values that can be no keys.
func noKeys() []api.Value {
	return []api.Value{
		null, bitsOf(0x7ff8000000000001), bitsOf(0x7ff8000000000000), bitsOf(0xfff8000000000001), bitsOf(0x7ff0000000000001),
		bitsOf(math.MaxUint64), dead(1), dead(0), dead(-1), dead(7),
	}
}

// allKeys are keys of all types, at the ends of what they can be, none of them twice.
func allKeys() []api.Value {
	l := []api.Value{
		float(1.5), float(-0.5), float(math.Inf(1)), float(math.Inf(-1)), float(math.MaxFloat64), float(math.SmallestNonzeroFloat64),
		float(1 << 63), value(api.TBool, 0), value(api.TBool, 1), value(api.TNative, 0), value(api.TNative, 255),
		value(12, 1), value(-1, 1), value(math.MaxInt, math.MinInt64), // types that there are not: no reason to refuse them
	}
	for _, n := range []int64{0, 1, 2, 3, 4096, 4097, -1, math.MinInt64, math.MaxInt64, 1 << 32, 1<<32 + 1} {
		l = append(l, integer(n))
	}
	for t := api.TStr; t <= api.TProto; t++ {
		l = append(l, value(t, 1), value(t, 2), value(t, api.MaxCells))
	}
	return l
}

// mixed is a key's hash as the chapters of tables and texts have it.
func mixed(v api.Value) uint32 {
	x := uint64(v.N)*0x9e3779b97f4a7c15 + uint64(v.T)
	return uint32(x>>32) ^ uint32(x)
}

// pair is a node: its key and its value.
type pair struct{ k, v api.Value }

// model is a table told again, by what a key's place is among lists.
type model struct {
	most  int
	hash  func(api.Value) uint32
	array []api.Value
	nodes []pair
}

func newModel(most int, hash func(api.Value) uint32) *model { return &model{most: most, hash: hash} }

// taken is a key as it is taken; false: it is none.
func taken(k api.Value) (api.Value, bool) {
	switch k.T {
	case api.TNil, api.TDead:
		return k, false
	case api.TFloat:
		f := math.Float64frombits(uint64(k.N))
		if f == math.Trunc(f) && f >= -(1<<63) && f < 1<<63 {
			return integer(int64(f)), true
		}
		return k, !math.IsNaN(f)
	}
	return k, true
}

// place points to a key's value; nil: it has none.
func (m *model) place(k api.Value) *api.Value {
	if k.T == api.TInt && k.N >= 1 && k.N <= int64(len(m.array)) {
		return &m.array[k.N-1]
	}
	for _, i := range m.way(k) {
		if m.nodes[i].k == k {
			return &m.nodes[i].v
		}
		if m.nodes[i].k.T == api.TNil {
			return nil
		}
	}
	return nil
}

// way is the nodes, in the order in which a key is looked for.
func (m *model) way(k api.Value) []int {
	if len(m.nodes) == 0 {
		return nil
	}
	var l []int
	for i := range m.nodes {
		l = append(l, i)
	}
	first := int(uint64(m.hash(k)) % uint64(len(l)))
	return append(l[first:len(l):len(l)], l[:first]...)
}

func (m *model) get(k api.Value) api.Value {
	if k, is := taken(k); is {
		if p := m.place(k); p != nil {
			return *p
		}
	}
	return null
}

func (m *model) set(k, v api.Value) api.Errno {
	k, is := taken(k)
	if !is || v.T == api.TDead {
		return api.ErrKey
	}
	if m.comes(k, v) {
		return api.OK
	}
	old := *m
	all := append(m.entries(), pair{k, v})
	m.array, m.nodes = m.sizes(all)
	if len(m.array)+2*len(m.nodes) > m.most {
		*m = old
		return api.ErrFull
	}
	for _, p := range all {
		if !m.comes(p.k, p.v) {
			panic("the model has no place for a key")
		}
	}
	return api.OK
}

// comes: there is a place, which has the value then, or none is needed.
func (m *model) comes(k, v api.Value) bool {
	if p := m.place(k); p != nil {
		*p = v
		return true
	}
	if v.T == api.TNil {
		return true
	}
	for _, i := range m.way(k) {
		if m.nodes[i].k.T == api.TNil {
			m.nodes[i] = pair{k, v}
			return true
		}
	}
	return false
}

// entries are the keys whose value is not nil, in order.
func (m *model) entries() []pair {
	return slices.DeleteFunc(m.all(), func(p pair) bool { return p.v.T == api.TNil })
}

// all are the keys of all places, in order.
func (m *model) all() []pair {
	var l []pair
	for i, v := range m.array {
		l = append(l, pair{integer(int64(i) + 1), v})
	}
	return append(l, m.nodes...)
}

// sizes are empty lists for these keys, no two of which are alike: the sizes of arrays are tried from the greatest on.
func (m *model) sizes(l []pair) ([]api.Value, []pair) {
	size, in := 4096, 0
	for ; size > 0; size /= 2 {
		in = 0
		for _, p := range l {
			if p.k.T == api.TInt && p.k.N >= 1 && p.k.N <= int64(size) {
				in++
			}
		}
		if in > size/2 {
			break
		}
	}
	if size == 0 {
		in = 0
	}
	nodes := 0
	for nodes < len(l)-in {
		nodes = max(1, 2*nodes)
	}
	return make([]api.Value, size), make([]pair, nodes)
}

func (m *model) length() int {
	n := 0
	for m.get(integer(int64(n)+1)).T != api.TNil {
		n++
	}
	return n
}

func (m *model) next(k api.Value) (api.Value, api.Value, api.Errno) {
	found := k.T == api.TNil
	if !found {
		var is bool
		if k, is = taken(k); !is || m.place(k) == nil {
			return null, null, api.ErrKey
		}
	}
	for _, p := range m.all() {
		if found && p.v.T != api.TNil {
			return p.k, p.v, api.OK
		}
		found = found || p.k == k
	}
	return null, null, api.OK
}

func (m *model) kill(i int) {
	if i < 0 {
		return
	}
	if i < len(m.array) {
		m.array[i] = null
		return
	}
	for j := range m.nodes {
		if p := &m.nodes[j]; i == len(m.array)+2*j+1 {
			p.v = null
			if slices.Contains([]int{api.TStr, api.TTable, api.TFunc, api.TBox, api.TThread, api.TProto}, p.k.T) {
				p.k.T = api.TDead
			}
		}
	}
}

// slots are all slots, as a store has them.
func (m *model) slots() []api.Value {
	l := slices.Clone(m.array)
	for _, p := range m.nodes {
		l = append(l, p.k, p.v)
	}
	return l
}

// slotsOf are the slots of a store.
func slotsOf(s table.Store) []api.Value {
	var l []api.Value
	for i := range s.Array() + 2*s.Nodes() {
		l = append(l, s.Slot(i))
	}
	return l
}

// told is all that a store has, as a text.
func told(s table.Store) string { return fmt.Sprint(s.Array(), s.Nodes(), slotsOf(s)) }

// differs tells how a table is not as the model is, asked for these keys beside those that are there; "": it is.
func differs(s table.Store, m *model, keys []api.Value) string {
	if s.Array() != len(m.array) || s.Nodes() != len(m.nodes) {
		return fmt.Sprintf("sizes %d, %d; want %d, %d", s.Array(), s.Nodes(), len(m.array), len(m.nodes))
	}
	if l := slotsOf(s); !slices.Equal(l, m.slots()) {
		return fmt.Sprintf("slots %v; want %v", l, m.slots())
	}
	if n := table.Len(s); n != m.length() {
		return fmt.Sprintf("Len = %d; want %d", n, m.length())
	}
	for _, p := range m.all() {
		keys = append(keys[:len(keys):len(keys)], p.k)
	}
	for _, k := range keys {
		if v := table.Get(s, k); v != m.get(k) {
			return fmt.Sprintf("Get(%v) = %v; want %v", k, v, m.get(k))
		}
		next, v, err := table.Next(s, k)
		wantNext, wantV, want := m.next(k)
		if next != wantNext || v != wantV || err != want {
			return fmt.Sprintf("Next(%v) = %v, %v, %v; want %v, %v, %v", k, next, v, err, wantNext, wantV, want)
		}
	}
	return ""
}

// shelf is a store whose hash is chosen, that may refuse, and counts what is asked of it.
type shelf struct {
	t             *testing.T
	array, nodes  int
	slots         []api.Value
	most          int
	hash          func(api.Value) uint32
	refuses       api.Errno // what Resize answers beside a lack of room; OK: nothing
	writes, asked int       // how many SetSlots and Resizes there were
}

func newShelf(t *testing.T, most int, hash func(api.Value) uint32) *shelf {
	return &shelf{t: t, most: most, hash: hash}
}

func (s *shelf) Array() int { return s.array }
func (s *shelf) Nodes() int { return s.nodes }

func (s *shelf) Slot(i int) api.Value {
	if i < 0 || i >= len(s.slots) {
		s.t.Fatalf("Slot(%d) is asked for; there are %d", i, len(s.slots))
	}
	return s.slots[i]
}

func (s *shelf) SetSlot(i int, v api.Value) {
	if i < 0 || i >= len(s.slots) {
		s.t.Fatalf("SetSlot(%d, %v); there are %d", i, v, len(s.slots))
	}
	s.writes++
	s.slots[i] = v
}

func (s *shelf) Resize(a, n int) api.Errno {
	s.asked++
	if a < 0 || a&(a-1) != 0 || n < 0 || n&(n-1) != 0 {
		s.t.Fatalf("Resize(%d, %d)", a, n)
	}
	if s.refuses != api.OK {
		return s.refuses
	}
	if a+2*n > s.most {
		return api.ErrFull
	}
	s.array, s.nodes, s.slots = a, n, make([]api.Value, a+2*n)
	return api.OK
}

func (s *shelf) Hash(v api.Value) uint32 {
	if _, is := taken(v); !is {
		s.t.Fatalf("Hash(%v): that is no key", v)
	}
	return s.hash(v)
}

// low is a hash that puts a key into the node that its N tells.
func low(v api.Value) uint32 { return uint32(v.N) }

// one is a hash that all keys have.
func one(api.Value) uint32 { return math.MaxUint32 }

// set sets keys to values, one behind the other: key, value, key, value, ..
func set(t *testing.T, s table.Store, l ...api.Value) {
	t.Helper()
	for i := 0; i < len(l); i += 2 {
		if err := table.Set(s, l[i], l[i+1]); err != api.OK {
			t.Fatalf("Set(%v, %v) = %v", l[i], l[i+1], err)
		}
	}
}

// add sets keys to values that tell which of them it was: 1, 2, 3, ..
func add(t *testing.T, s table.Store, keys ...api.Value) {
	t.Helper()
	for i, k := range keys {
		set(t, s, k, integer(int64(i)+1))
	}
}

func expectGet(t *testing.T, s table.Store, k, want api.Value) {
	t.Helper()
	if v := table.Get(s, k); v != want {
		t.Errorf("Get(%v) = %v; want %v", k, v, want)
	}
}

func expectSizes(t *testing.T, s table.Store, a, n int) {
	t.Helper()
	if s.Array() != a || s.Nodes() != n {
		t.Errorf("sizes %d, %d; want %d, %d", s.Array(), s.Nodes(), a, n)
	}
}

// expectSlots holds all slots against what they must be.
func expectSlots(t *testing.T, s table.Store, want ...api.Value) {
	t.Helper()
	if l := slotsOf(s); !slices.Equal(l, want) {
		t.Errorf("slots %v; want %v", l, want)
	}
}

func expectLen(t *testing.T, s table.Store, want int) {
	t.Helper()
	if n := table.Len(s); n != want {
		t.Errorf("Len = %d; want %d", n, want)
	}
}

func expectNext(t *testing.T, s table.Store, k, next, v api.Value, err api.Errno) {
	t.Helper()
	gotK, gotV, got := table.Next(s, k)
	if gotK != next || gotV != v || got != err {
		t.Errorf("Next(%v) = %v, %v, %v; want %v, %v, %v", k, gotK, gotV, got, next, v, err)
	}
}

// ints are keys from one number to another.
func ints(from, to int64) []api.Value {
	var l []api.Value
	for n := from; n <= to; n++ {
		l = append(l, integer(n))
	}
	return l
}

// keysIn are the first strings whose way begins at the node i of n in a Mem.
func keysIn(i, n, count int) []api.Value {
	var l []api.Value
	for h := int64(1); len(l) < count; h++ {
		if int(mixed(str(h))%uint32(n)) == i {
			l = append(l, str(h))
		}
	}
	return l
}
