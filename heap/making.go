package heap

import (
	"slices"

	"heirloom/api"
	"heirloom/object"
	"heirloom/text"
)

// Text is the string of some bytes.
func (h *Heap) Text(s string) (api.Value, api.Errno) {
	switch {
	case !h.made():
		return api.Value{}, api.ErrNil
	case len(s) > api.MaxText:
		return api.Value{}, api.ErrLong
	}
	if b, is := h.texts.Find(s); is {
		h.rescue(b)
		return valueOf(api.TStr, b), api.OK
	}
	aux := append([]int64{int64(len(s))}, text.Pack(s)...)
	v, err := h.put(api.Object{Head: api.Head{Kind: api.TStr}, Aux: aux})
	if err == api.OK {
		h.texts.Put(s, int(v.N))
	}
	return v, err
}

// rescue keeps a string that is asked for again from being swept.
func (h *Heap) rescue(b int) {
	white := h.collector.White()
	if h.head(b).Colour == api.White0+api.White1-white {
		h.change(b, func(head *api.Head) { head.Colour = white })
	}
}

// Table makes a table.
func (h *Heap) Table() (api.Value, api.Errno) {
	if !h.made() {
		return api.Value{}, api.ErrNil
	}
	return h.create(api.TTable, []int64{arrayAux: 0, nodesAux: 0}, api.Value{})
}

// Proto makes a prototype.
func (h *Heap) Proto(index int, consts ...api.Value) (api.Value, api.Errno) {
	switch {
	case !h.made():
		return api.Value{}, api.ErrNil
	case !rightCount(index), !h.allThere(consts):
		return api.Value{}, api.ErrArg
	}
	return h.create(api.TProto, []int64{int64(index)}, consts...)
}

// Func makes a closure.
func (h *Heap) Func(proto api.Value, boxes ...api.Value) (api.Value, api.Errno) {
	switch {
	case !h.made():
		return api.Value{}, api.ErrNil
	case !h.isThere(proto), !h.allThere(boxes):
		return api.Value{}, api.ErrArg
	case proto.T != api.TProto, slices.ContainsFunc(boxes, isNoBox):
		return api.Value{}, api.ErrType
	}
	return h.create(api.TFunc, nil, slices.Insert(slices.Clone(boxes), 0, proto)...)
}

func isNoBox(v api.Value) bool { return v.T != api.TBox }

// Box makes a box.
func (h *Heap) Box(v api.Value) (api.Value, api.Errno) {
	switch {
	case !h.made():
		return api.Value{}, api.ErrNil
	case !h.isThere(v):
		return api.Value{}, api.ErrArg
	}
	return h.create(api.TBox, nil, v)
}

// Thread makes a coroutine's registers.
func (h *Heap) Thread(n int) (api.Value, api.Errno) {
	switch {
	case !h.made():
		return api.Value{}, api.ErrNil
	case !rightCount(n):
		return api.Value{}, api.ErrArg
	}
	return h.create(api.TThread, nil, make([]api.Value, n)...)
}

// rightCount: there may be n of an object's parts.
func rightCount(n int) bool { return n >= 0 && n <= api.MaxParts }

// Grow gives it more of them.
func (h *Heap) Grow(v api.Value, n int) api.Errno {
	switch {
	case !h.made():
		return api.ErrNil
	case v.T != api.TThread || !h.leads(v):
		return api.ErrType
	case !rightCount(n):
		return api.ErrArg
	}
	b := int(v.N)
	head := h.head(b)
	if head.Slots >= n {
		return api.OK
	}
	head.Slots = n
	size := object.Size(head)
	err := h.Resize(b, size)
	if err == api.ErrFull {
		h.emergency(v)
		err = h.Extend(b, size)
	}
	if err == api.OK {
		h.change(b, func(head *api.Head) { head.Slots = n }) // an emergency has changed its colour
	}
	return err
}

// create makes an object that is no string. All values that were handed in for it are its slots.
func (h *Heap) create(kind int, aux []int64, slots ...api.Value) (api.Value, api.Errno) {
	if !rightCount(len(slots)) {
		return api.Value{}, api.ErrMany
	}
	v, err := h.put(api.Object{Head: api.Head{Kind: kind, Serial: h.makes}, Aux: aux, Slots: slots})
	if err == api.OK {
		h.makes++
	}
	return v, err
}

// put finds room for an object, and makes it.
func (h *Heap) put(o api.Object) (api.Value, api.Errno) {
	o.Head.Aux, o.Head.Slots = len(o.Aux), len(o.Slots)
	cells, err := object.Cells(o)
	if err != api.OK {
		return api.Value{}, err
	}
	b, err := h.room(len(cells), o.Slots)
	if err != api.OK {
		return api.Value{}, err
	}
	h.storeAll(b, 0, cells...)
	h.collector.Birth(b)
	return valueOf(o.Head.Kind, b), api.OK
}

// room is a new block.
func (h *Heap) room(cells int, handed []api.Value) (int, api.Errno) {
	b, err := h.Alloc(cells)
	if err == api.ErrFull {
		h.emergency(handed...)
		h.Compact()
		b, err = h.Alloc(cells)
	}
	return b, err
}

// emergency drops all that nobody needs; what was handed to the call is needed, though nobody else may hold it.
func (h *Heap) emergency(handed ...api.Value) {
	h.emergencies++
	h.Keep(handed...)
	h.Major()
	h.Release(len(handed))
}
