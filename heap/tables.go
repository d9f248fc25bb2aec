package heap

import (
	"heirloom/api"
	"heirloom/table"
)

// Get is a key's value.
func (h *Heap) Get(t, k api.Value) (api.Value, api.Errno) {
	if err := h.wrongTable(t, k); err != api.OK {
		return api.Value{}, err
	}
	return table.Get(h.slotsOf(int(t.N), nil), k), api.OK
}

// Set is that a key has a value.
func (h *Heap) Set(t, k, x api.Value) api.Errno {
	if err := h.wrongTable(t, k, x); err != api.OK {
		return err
	}
	b := int(t.N)
	err := table.Set(h.slotsOf(b, h.Resize), k, x)
	if err == api.ErrFull {
		h.emergency(t, k, x)
		err = table.Set(h.slotsOf(b, h.Extend), k, x)
	}
	if err != api.OK {
		return err
	}
	h.collector.Write(b, k)
	h.collector.Write(b, x)
	return api.OK
}

// Len is how many keys from 1 on have values.
func (h *Heap) Len(t api.Value) (int, api.Errno) {
	if err := h.wrongTable(t); err != api.OK {
		return 0, err
	}
	return table.Len(h.slotsOf(int(t.N), nil)), api.OK
}

// Next is the key behind a key, and its value.
func (h *Heap) Next(t, k api.Value) (api.Value, api.Value, api.Errno) {
	if err := h.wrongTable(t, k); err != api.OK {
		return api.Value{}, api.Value{}, err
	}
	return table.Next(h.slotsOf(int(t.N), nil), k)
}

// SetMeta is that a table has a metatable, and holds something weakly.
func (h *Heap) SetMeta(t, m api.Value, weak int) api.Errno {
	if err := h.wrongTable(t, m); err != api.OK {
		return err
	}
	if weak < api.WeakNone || weak > api.WeakBoth || m.T != api.TNil && m.T != api.TTable {
		return api.ErrArg
	}
	b := int(t.N)
	h.setValueAt(b, slotAt(tableAux, 0), m)
	h.collector.Write(b, m)
	h.change(b, func(head *api.Head) { head.Weak = weak })
	return api.OK
}

// Mark marks a table for a finaliser.
func (h *Heap) Mark(t api.Value) api.Errno {
	if err := h.wrongTable(t); err != api.OK {
		return err
	}
	b := int(t.N)
	if h.head(b).Fin != 0 {
		return api.ErrState
	}
	h.marks++
	h.change(b, func(head *api.Head) { head.Fin = h.marks })
	return api.OK
}

// wrongTable is what is wrong with a table, and with values that are handed in with it.
func (h *Heap) wrongTable(t api.Value, l ...api.Value) api.Errno {
	switch {
	case !h.made():
		return api.ErrNil
	case t.T != api.TTable || !h.leads(t):
		return api.ErrType
	case !h.allThere(l):
		return api.ErrArg
	}
	return api.OK
}
