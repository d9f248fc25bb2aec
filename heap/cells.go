package heap

import (
	"heirloom/api"
	"heirloom/object"
)

// headCells is how many cells of an object its head has.
const headCells = 2

// valueOf is the value that leads to an object.
func valueOf(kind, b int) api.Value { return api.Value{T: kind, N: int64(b)} }

// isObject: the value is of an object's type.
func isObject(v api.Value) bool { return v.T >= api.TStr && v.T <= api.TProto }

// leads: there is an object to which the value leads.
func (h *Heap) leads(v api.Value) bool {
	return isObject(v) && object.Value(v) && h.head(int(v.N)).Kind == v.T
}

// isThere: the value may be handed in, and put somewhere. A key whose object is gone is right, but an object's that it does not lead to: the collector alone makes one, where a pair's key was.
func (h *Heap) isThere(v api.Value) bool {
	switch {
	case v.T == api.TDead:
		return false
	case isObject(v):
		return h.leads(v)
	}
	return object.Value(v)
}

func (h *Heap) allThere(l []api.Value) bool {
	for _, v := range l {
		if !h.isThere(v) {
			return false
		}
	}
	return true
}

// head is an object's; a zero one, if it is not there.
func (h *Heap) head(b int) api.Head {
	first, _ := h.Load(b, 0)
	second, _ := h.Load(b, 1)
	head, _ := object.Unpack(first, second) // no head is told by cells that are 0
	return head
}

// change changes the head of an object, if it is there, and it is right then.
func (h *Heap) change(b int, do func(head *api.Head)) {
	head := h.head(b)
	do(&head)
	first, second, err := object.Pack(head)
	if err == api.OK {
		h.storeAll(b, 0, first, second)
	}
}

// storeAll stores cells one behind the other.
func (h *Heap) storeAll(b, at int, l ...int64) {
	for i, x := range l {
		h.Store(b, at+i, x)
	}
}

// object is an object that is there.
func (h *Heap) object(b int) api.Object {
	l := make([]int64, h.Arena.Len(b))
	for i := range l {
		l[i], _ = h.Load(b, i)
	}
	o, _ := object.Read(l)
	return o
}

// slotAt is where the two cells of a slot begin.
func slotAt(aux, i int) int { return headCells + aux + 2*i }

func (h *Heap) valueAt(b, at int) api.Value {
	t, _ := h.Load(b, at)
	n, _ := h.Load(b, at+1)
	return api.Value{T: int(t), N: n}
}

func (h *Heap) setValueAt(b, at int, v api.Value) { h.storeAll(b, at, int64(v.T), v.N) }
