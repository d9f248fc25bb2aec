package run_test

import (
	"slices"

	"heirloom/api"
	"heirloom/arena"
	"heirloom/collect"
	"heirloom/table"
	"heirloom/text"
)

// A room says chapter 14 word by word. Its objects are no cells: an arena tells handles and places alone.
type room struct {
	a       *arena.Arena
	c       *collect.Collector
	ones    map[int]*one
	texts   map[string]int
	roots   func() []api.Value
	handed  []api.Value // to the call in which there is no room
	dropped func(h int)
	made    int
	marked  int
	urgent  int
}

type one struct {
	head         api.Head
	array, nodes int // of a table; the number of a prototype
	slots        []api.Value
	text         string
}

// outOfRoom is a panic's value.
type outOfRoom struct{}

func newRoom(size int) *room {
	a, e := arena.New(size)
	if e != api.OK {
		panic(e)
	}
	r := &room{a: a, ones: map[int]*one{}, texts: map[string]int{}}
	r.c = collect.New(face{r})
	return r
}

// face is a room as its collector looks at it.
type face struct{ *room }

func (f face) Order() []int       { return f.a.Handles() }
func (f face) Roots() []api.Value { return slices.Concat(f.roots(), f.handed) }
func (f face) Cells(h int) int    { return f.a.Len(h) }
func (f face) SetColour(h, n int) { f.ones[h].head.Colour = n }
func (f face) SetAge(h, n int)    { f.ones[h].head.Age = n }
func (f face) SetFin(h, n int)    { f.ones[h].head.Fin = n }
func (f face) Kind(h int) int     { return f.known(h).head.Kind }
func (f face) Colour(h int) int   { return f.known(h).head.Colour }
func (f face) Age(h int) int      { return f.known(h).head.Age }
func (f face) known(h int) (o one) {
	if p := f.ones[h]; p != nil {
		o = *p
	}
	return o
}

func (f face) Thing(h int) api.Thing {
	o := f.known(h)
	th := api.Thing{Kind: o.head.Kind, Weak: o.head.Weak, Slots: slices.Clone(o.slots), Fin: o.head.Fin}
	if o.head.Kind == api.TTable {
		th.Array = o.array
	}
	return th
}

func (f face) Clear(h, slot int, key bool) {
	f.ones[h].slots[slot] = api.Value{}
	if key {
		f.ones[h].slots[slot-1].T = api.TDead
	}
}

func (f face) Drop(h int) {
	if o := f.ones[h]; o.head.Kind == api.TStr {
		delete(f.texts, o.text)
	}
	delete(f.ones, h)
	f.a.Free(h)
	f.dropped(h)
}

func (r *room) emergency(handed ...api.Value) {
	r.urgent++
	r.handed = handed
	r.c.Major()
	r.handed = nil
}

// add makes an object, in so many cells.
func (r *room) add(o one, cells int) api.Value {
	h, e := r.a.Alloc(cells)
	if e == api.ErrFull {
		r.emergency(o.slots...)
		r.a.Compact()
		h, e = r.a.Alloc(cells)
	}
	if e != api.OK {
		panic(outOfRoom{})
	}
	if o.head.Kind != api.TStr {
		o.head.Serial = r.made
		r.made++
	}
	r.ones[h] = &o
	r.c.Birth(h)
	return api.Value{T: o.head.Kind, N: int64(h)}
}

// object makes one that is neither a string, nor a table, nor a prototype.
func (r *room) object(kind int, slots ...api.Value) api.Value {
	return r.add(one{head: api.Head{Kind: kind}, slots: slots}, 2+2*len(slots))
}

func (r *room) table() api.Value {
	return r.add(one{head: api.Head{Kind: api.TTable}, slots: make([]api.Value, 1)}, 6)
}

func (r *room) str(s string) api.Value {
	h, is := r.texts[s]
	if !is {
		v := r.add(one{head: api.Head{Kind: api.TStr}, text: s}, 3+len(text.Pack(s)))
		r.texts[s] = int(v.N)
		return v
	}
	if o := r.ones[h]; o.head.Colour == api.White0+api.White1-r.c.White() {
		o.head.Colour = r.c.White()
	}
	return api.Value{T: api.TStr, N: int64(h)}
}

func (r *room) at(v api.Value) *one { return r.ones[int(v.N)] }

func (r *room) setSlot(v api.Value, i int, x api.Value) {
	r.at(v).slots[i] = x
	r.c.Write(int(v.N), x)
}

// grow gives a thread so many slots at least.
func (r *room) grow(v api.Value, n int) {
	o := r.at(v)
	if n <= len(o.slots) {
		return
	}
	if r.a.Resize(int(v.N), 2+2*n) != api.OK {
		r.emergency(v)
		if r.a.Extend(int(v.N), 2+2*n) != api.OK {
			panic(outOfRoom{})
		}
	}
	o.slots = append(o.slots, make([]api.Value, n-len(o.slots))...)
}

// rows are a table's slots as a store.
type rows struct {
	r     *room
	v     api.Value
	place func(h, n int) api.Errno
}

func (s rows) Array() int                 { return s.r.at(s.v).array }
func (s rows) Nodes() int                 { return s.r.at(s.v).nodes }
func (s rows) Slot(i int) api.Value       { return s.r.at(s.v).slots[1+i] }
func (s rows) SetSlot(i int, v api.Value) { s.r.at(s.v).slots[1+i] = v }

func (s rows) Resize(a, n int) api.Errno {
	slots := 1 + a + 2*n
	if slots > api.MaxParts {
		return api.ErrMany
	}
	if e := s.place(int(s.v.N), 4+2*slots); e != api.OK {
		return e
	}
	o := s.r.at(s.v)
	o.array, o.nodes = a, n
	o.slots = append([]api.Value{o.slots[0]}, make([]api.Value, slots-1)...)
	return api.OK
}

func (s rows) Hash(v api.Value) uint32 {
	switch {
	case v.T == api.TStr:
		return text.Hash(s.r.at(v).text)
	case v.T > api.TStr && v.T <= api.TProto:
		return text.Mix(v.T, int64(s.r.at(v).head.Serial))
	}
	return text.Mix(v.T, v.N)
}

func (r *room) rows(t api.Value) rows        { return rows{r, t, r.a.Resize} }
func (r *room) get(t, k api.Value) api.Value { return table.Get(r.rows(t), k) }

func (r *room) set(t, k, x api.Value) api.Errno {
	e := table.Set(r.rows(t), k, x)
	if e == api.ErrFull {
		r.emergency(t, k, x)
		e = table.Set(rows{r, t, r.a.Extend}, k, x)
	}
	if e == api.ErrFull {
		panic(outOfRoom{})
	}
	if e == api.OK {
		r.c.Write(int(t.N), k)
		r.c.Write(int(t.N), x)
	}
	return e
}

func (r *room) setMeta(t, m api.Value, weak int) {
	r.setSlot(t, 0, m)
	r.at(t).head.Weak = weak
}

func (r *room) mark(t api.Value) {
	if r.at(t).head.Fin == 0 {
		r.marked++
		r.at(t).head.Fin = r.marked
	}
}
