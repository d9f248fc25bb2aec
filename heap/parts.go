package heap

import "heirloom/api"

// Object is an object as it is now.
func (h *Heap) Object(v api.Value) (api.Object, bool) {
	if !h.made() || !h.leads(v) {
		return api.Object{}, false
	}
	return h.object(int(v.N)), true
}

// Bytes are a string's.
func (h *Heap) Bytes(v api.Value) (string, bool) {
	if !h.made() || !h.leads(v) {
		return "", false
	}
	return h.texts.Text(int(v.N)) // no other object has one
}

// Slot is what lies in a slot.
func (h *Heap) Slot(v api.Value, i int) (api.Value, api.Errno) {
	at, err := h.findSlot(v, i)
	if err != api.OK {
		return api.Value{}, err
	}
	return h.valueAt(int(v.N), at), api.OK
}

// SetSlot puts something into a slot.
func (h *Heap) SetSlot(v api.Value, i int, x api.Value) api.Errno {
	at, err := h.findSlot(v, i)
	if err != api.OK {
		return err
	}
	if !h.isThere(x) {
		return api.ErrArg
	}
	h.setValueAt(int(v.N), at, x)
	h.collector.Write(int(v.N), x)
	return api.OK
}

// findSlot is where the cells of an object's slot begin.
func (h *Heap) findSlot(v api.Value, i int) (int, api.Errno) {
	switch {
	case !h.made():
		return 0, api.ErrNil
	case !h.leads(v):
		return 0, api.ErrType
	}
	head := h.head(int(v.N))
	if i < 0 || i >= head.Slots {
		return 0, api.ErrArg
	}
	return slotAt(head.Aux, i), api.OK
}
