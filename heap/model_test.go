package heap_test

import (
	"math/bits"
	"slices"

	"heirloom/api"
	"heirloom/arena"
	"heirloom/collect"
	"heirloom/object"
	"heirloom/table"
	"heirloom/text"
)

// calls are those that the chapter lists.
type calls interface {
	Text(s string) (api.Value, api.Errno)
	Table() (api.Value, api.Errno)
	Proto(index int, consts ...api.Value) (api.Value, api.Errno)
	Func(proto api.Value, boxes ...api.Value) (api.Value, api.Errno)
	Box(v api.Value) (api.Value, api.Errno)
	Thread(n int) (api.Value, api.Errno)
	Grow(v api.Value, n int) api.Errno
	Object(v api.Value) (api.Object, bool)
	Bytes(v api.Value) (string, bool)
	Slot(v api.Value, i int) (api.Value, api.Errno)
	SetSlot(v api.Value, i int, x api.Value) api.Errno
	Get(t, k api.Value) (api.Value, api.Errno)
	Set(t, k, x api.Value) api.Errno
	Len(t api.Value) (int, api.Errno)
	Next(t, k api.Value) (api.Value, api.Value, api.Errno)
	SetMeta(t, m api.Value, weak int) api.Errno
	Mark(t api.Value) api.Errno
	Keep(l ...api.Value)
	Release(n int)
	SetRoots(l ...api.Value)
	Roots() []api.Value
	Step(k int) bool
	Young() bool
	Major()
	SetMode(mode int)
	Take() (api.Value, bool)
	View() api.View
	Compact() int
	Free() (live, top, gap int)
	Counts() (made, marked, emergencies int)
}

// A model says the chapter word by word. Its objects are no cells: its arena tells handles and room alone.
type model struct {
	a                     *arena.Arena
	c                     *collect.Collector
	ones                  map[int]*api.Object
	roots, kept           []api.Value
	made, marked, urgents int
}

func newModel(size int) *model {
	a, _ := arena.New(size)
	m := &model{a: a, ones: map[int]*api.Object{}}
	m.c = collect.New(face{m})
	return m
}

// face is a model as its collector looks at it.
type face struct{ *model }

func (f face) Order() []int { return f.a.Handles() }

func (f face) Thing(h int) api.Thing {
	o := f.ones[h]
	if o == nil {
		return api.Thing{}
	}
	th := api.Thing{Kind: o.Head.Kind, Weak: o.Head.Weak, Slots: slices.Clone(o.Slots), Fin: o.Head.Fin}
	if o.Head.Kind == api.TTable {
		th.Array = int(o.Aux[0])
	}
	return th
}

func (f face) head(h int) api.Head {
	if o := f.ones[h]; o != nil {
		return o.Head
	}
	return api.Head{}
}

func (f face) Kind(h int) int          { return f.head(h).Kind }
func (f face) Colour(h int) int        { return f.head(h).Colour }
func (f face) Age(h int) int           { return f.head(h).Age }
func (f face) Cells(h int) int         { return f.a.Len(h) }
func (f face) SetColour(h, colour int) { f.ones[h].Head.Colour = colour }
func (f face) SetAge(h, age int)       { f.ones[h].Head.Age = age }
func (f face) SetFin(h, n int)         { f.ones[h].Head.Fin = n }

func (f face) Clear(h, slot int, key bool) {
	f.ones[h].Slots[slot] = none
	if key {
		f.ones[h].Slots[slot-1].T = api.TDead
	}
}

func (f face) Drop(h int) {
	delete(f.ones, h)
	f.a.Free(h)
}

func (m *model) find(v api.Value) *api.Object {
	if o := m.ones[int(v.N)]; o != nil && o.Head.Kind == v.T {
		return o
	}
	return nil
}

func (m *model) there(l ...api.Value) bool {
	for _, v := range l {
		if slices.Contains(kinds, v.T) && m.find(v) == nil || v.T == api.TDead || !object.Value(v) {
			return false
		}
	}
	return true
}

func (m *model) emergency(handed ...api.Value) {
	m.urgents++
	kept := m.kept
	m.kept = slices.Concat(kept, handed)
	m.c.Major()
	m.kept = kept
}

func (m *model) room(n int, handed ...api.Value) (int, api.Errno) {
	h, err := m.a.Alloc(n)
	if err == api.ErrFull {
		m.emergency(handed...)
		m.a.Compact()
		h, err = m.a.Alloc(n)
	}
	return h, err
}

func (m *model) put(kind int, aux []int64, slots []api.Value) (api.Value, api.Errno) {
	if len(slots) > api.MaxParts {
		return none, api.ErrMany
	}
	h, err := m.room(2+len(aux)+2*len(slots), slots...)
	if err != api.OK {
		return none, err
	}
	o := &api.Object{Head: api.Head{Kind: kind, Aux: len(aux), Slots: len(slots)}, Aux: slices.Clone(aux), Slots: slices.Clone(slots)}
	if kind != api.TStr {
		o.Head.Serial = m.made
		m.made++
	}
	m.ones[h] = o
	m.c.Birth(h)
	return leading(kind, h), api.OK
}

func (m *model) Text(s string) (api.Value, api.Errno) {
	if len(s) > api.MaxText {
		return none, api.ErrLong
	}
	for h, o := range m.ones {
		if o.Head.Kind != api.TStr {
			continue
		}
		if b, _ := text.Unpack(o.Aux[1:], int(o.Aux[0])); b == s {
			if o.Head.Colour != m.c.White() && o.Head.Colour <= api.White1 {
				o.Head.Colour = m.c.White()
			}
			return leading(api.TStr, h), api.OK
		}
	}
	return m.put(api.TStr, append([]int64{int64(len(s))}, text.Pack(s)...), nil)
}

func (m *model) Table() (api.Value, api.Errno) {
	return m.put(api.TTable, []int64{0, 0}, []api.Value{none})
}

func (m *model) Proto(index int, consts ...api.Value) (api.Value, api.Errno) {
	if index < 0 || index > api.MaxParts || !m.there(consts...) {
		return none, api.ErrArg
	}
	return m.put(api.TProto, []int64{int64(index)}, consts)
}

func (m *model) Func(proto api.Value, boxes ...api.Value) (api.Value, api.Errno) {
	if !m.there(proto) || !m.there(boxes...) {
		return none, api.ErrArg
	}
	if proto.T != api.TProto {
		return none, api.ErrType
	}
	for _, v := range boxes {
		if v.T != api.TBox {
			return none, api.ErrType
		}
	}
	return m.put(api.TFunc, nil, append([]api.Value{proto}, boxes...))
}

func (m *model) Box(v api.Value) (api.Value, api.Errno) {
	if !m.there(v) {
		return none, api.ErrArg
	}
	return m.put(api.TBox, nil, []api.Value{v})
}

func (m *model) Thread(n int) (api.Value, api.Errno) {
	if n < 0 || n > api.MaxParts {
		return none, api.ErrArg
	}
	return m.put(api.TThread, nil, make([]api.Value, n))
}

func (m *model) Grow(v api.Value, n int) api.Errno {
	o := m.find(v)
	if o == nil || v.T != api.TThread {
		return api.ErrType
	}
	if n < 0 || n > api.MaxParts {
		return api.ErrArg
	}
	if n <= len(o.Slots) {
		return api.OK
	}
	if m.a.Resize(int(v.N), 2+2*n) != api.OK {
		m.emergency(v)
		if m.a.Extend(int(v.N), 2+2*n) != api.OK {
			return api.ErrFull
		}
	}
	o.Slots = append(o.Slots, make([]api.Value, n-len(o.Slots))...)
	o.Head.Slots = n
	return api.OK
}

func (m *model) Object(v api.Value) (api.Object, bool) {
	o := m.find(v)
	if o == nil {
		return api.Object{}, false
	}
	return api.Object{Head: o.Head, Aux: slices.Clone(o.Aux), Slots: slices.Clone(o.Slots)}, true
}

func (m *model) Bytes(v api.Value) (string, bool) {
	o := m.find(v)
	if o == nil || v.T != api.TStr {
		return "", false
	}
	s, _ := text.Unpack(o.Aux[1:], int(o.Aux[0]))
	return s, true
}

func (m *model) Slot(v api.Value, i int) (api.Value, api.Errno) {
	o := m.find(v)
	if o == nil {
		return none, api.ErrType
	}
	if i < 0 || i >= len(o.Slots) {
		return none, api.ErrArg
	}
	return o.Slots[i], api.OK
}

func (m *model) SetSlot(v api.Value, i int, x api.Value) api.Errno {
	if _, err := m.Slot(v, i); err != api.OK {
		return err
	}
	if !m.there(x) {
		return api.ErrArg
	}
	m.find(v).Slots[i] = x
	m.c.Write(int(v.N), x)
	return api.OK
}

// rows are a table's slots as a store.
type rows struct {
	m      *model
	h      int
	extend bool
}

func (r rows) one() *api.Object           { return r.m.ones[r.h] }
func (r rows) Array() int                 { return int(r.one().Aux[0]) }
func (r rows) Nodes() int                 { return int(r.one().Aux[1]) }
func (r rows) Slot(i int) api.Value       { return r.one().Slots[1+i] }
func (r rows) SetSlot(i int, v api.Value) { r.one().Slots[1+i] = v }
func (r rows) newSlots(a, n int) []api.Value {
	return append(r.one().Slots[:1:1], make([]api.Value, a+2*n)...)
}
func (r rows) place(cells int) (e api.Errno) {
	if r.extend {
		return r.m.a.Extend(r.h, cells)
	}
	return r.m.a.Resize(r.h, cells)
}

func (r rows) Resize(a, n int) api.Errno {
	l := r.newSlots(a, n)
	if len(l) > api.MaxParts {
		return api.ErrMany
	}
	if err := r.place(4 + 2*len(l)); err != api.OK {
		return err
	}
	o := r.one()
	o.Slots, o.Head.Slots, o.Aux = l, len(l), []int64{int64(a), int64(n)}
	return api.OK
}

func (r rows) Hash(v api.Value) uint32 {
	if s, is := r.m.Bytes(v); is {
		return text.Hash(s)
	}
	if o := r.m.find(v); o != nil {
		return text.Mix(v.T, int64(o.Head.Serial))
	}
	return text.Mix(v.T, v.N)
}

func (m *model) wrong(t api.Value, l ...api.Value) api.Errno {
	if t.T != api.TTable || m.find(t) == nil {
		return api.ErrType
	}
	if !m.there(l...) {
		return api.ErrArg
	}
	return api.OK
}

func (m *model) Get(t, k api.Value) (api.Value, api.Errno) {
	if err := m.wrong(t, k); err != api.OK {
		return none, err
	}
	return table.Get(rows{m: m, h: int(t.N)}, k), api.OK
}

func (m *model) Set(t, k, x api.Value) api.Errno {
	if err := m.wrong(t, k, x); err != api.OK {
		return err
	}
	err := table.Set(rows{m: m, h: int(t.N)}, k, x)
	if err == api.ErrFull {
		m.emergency(t, k, x)
		err = table.Set(rows{m: m, h: int(t.N), extend: true}, k, x)
	}
	if err == api.OK {
		m.c.Write(int(t.N), k)
		m.c.Write(int(t.N), x)
	}
	return err
}

func (m *model) Len(t api.Value) (int, api.Errno) {
	if err := m.wrong(t); err != api.OK {
		return 0, err
	}
	return table.Len(rows{m: m, h: int(t.N)}), api.OK
}

func (m *model) Next(t, k api.Value) (api.Value, api.Value, api.Errno) {
	if err := m.wrong(t, k); err != api.OK {
		return none, none, err
	}
	return table.Next(rows{m: m, h: int(t.N)}, k)
}

func (m *model) SetMeta(t, x api.Value, weak int) api.Errno {
	if err := m.wrong(t, x); err != api.OK {
		return err
	}
	if weak < 0 || weak > 3 || x.T != api.TNil && x.T != api.TTable {
		return api.ErrArg
	}
	m.find(t).Slots[0] = x
	m.c.Write(int(t.N), x)
	m.find(t).Head.Weak = weak
	return api.OK
}

func (m *model) Mark(t api.Value) api.Errno {
	if err := m.wrong(t); err != api.OK {
		return err
	}
	o := m.find(t)
	if o.Head.Fin != 0 {
		return api.ErrState
	}
	m.marked++
	o.Head.Fin = m.marked
	return api.OK
}

func (m *model) Keep(l ...api.Value) { m.kept = slices.Concat(m.kept, l) }

func (m *model) Release(n int) {
	for range min(n, len(m.kept)) {
		m.kept = m.kept[:len(m.kept)-1]
	}
}

func (m *model) SetRoots(l ...api.Value) { m.roots = slices.Clone(l) }
func (m *model) Roots() []api.Value      { return slices.Concat(m.roots, m.kept) }
func (m *model) Step(k int) bool         { return m.c.Step(k) }
func (m *model) Young() bool             { return m.c.Young() }
func (m *model) Major()                  { m.c.Major() }
func (m *model) SetMode(mode int)        { m.c.SetMode(mode) }
func (m *model) View() api.View          { return m.c.View() }
func (m *model) Compact() int            { return m.a.Compact() }

func (m *model) Take() (api.Value, bool) {
	h, is := m.c.Take()
	if !is {
		return none, false
	}
	return leading(m.ones[h].Head.Kind, h), true
}

func (m *model) Free() (live, top, gap int) { return m.a.Live(), m.a.Top(), m.a.Gap() }

func (m *model) Counts() (made, marked, emergencies int) { return m.made, m.marked, m.urgents }

// askedCells is how many cells a table has that is renewed for one key more than its slots have values for.
func askedCells(o api.Object, k api.Value) int {
	a := int(o.Aux[0])
	keys := []api.Value{k}
	for i, v := range o.Slots[1:] {
		switch {
		case i < a && v.T != api.TNil:
			keys = append(keys, whole(i+1))
		case i >= a && (i-a)%2 == 1 && v.T != api.TNil:
			keys = append(keys, o.Slots[i])
		}
	}
	size, within := 0, 0
	for p := 1; p <= 4096; p *= 2 {
		n := 0
		for _, k := range keys {
			if k.T == api.TInt && k.N >= 1 && k.N <= int64(p) {
				n++
			}
		}
		if n > p/2 {
			size, within = p, n
		}
	}
	nodes := 0
	if rest := len(keys) - within; rest > 0 {
		nodes = 1 << bits.Len(uint(rest-1))
	}
	return tableCells + slotCells*size + nodeCells*nodes
}
