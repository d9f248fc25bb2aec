package heap

import (
	"heirloom/api"
	"heirloom/object"
	"heirloom/text"
)

// A table has so many aux cells: how many array slots it has, and how many nodes.
const (
	arrayAux = 0
	nodesAux = 1
	tableAux = 2
)

// ahead is how many slots of a table come ahead of those that table's calls go over: its metatable is no key's value.
const ahead = 1

// slots are a table's, as table's calls go over them.
type slots struct {
	heap *Heap
	b    int
	lay  func(b, cells int) api.Errno // gives the block another length; nil: it is not asked for one
}

func (h *Heap) slotsOf(b int, lay func(b, cells int) api.Errno) *slots {
	return &slots{heap: h, b: b, lay: lay}
}

// Array is how many array slots there are.
func (s *slots) Array() int { return s.aux(arrayAux) }

// Nodes is how many nodes there are.
func (s *slots) Nodes() int { return s.aux(nodesAux) }

func (s *slots) aux(i int) int {
	n, _ := s.heap.Load(s.b, headCells+i)
	return int(n)
}

// Slot is what lies in a slot.
func (s *slots) Slot(i int) api.Value { return s.heap.valueAt(s.b, slotAt(tableAux, ahead+i)) }

// SetSlot is that something lies in a slot.
func (s *slots) SetSlot(i int, v api.Value) {
	s.heap.setValueAt(s.b, slotAt(tableAux, ahead+i), v)
}

// Resize is that there are other slots, all nil.
func (s *slots) Resize(a, n int) api.Errno {
	more := a + 2*n
	if ahead+more > api.MaxParts {
		return api.ErrMany
	}
	head := s.heap.head(s.b)
	head.Slots = ahead + more
	if err := s.lay(s.b, object.Size(head)); err != api.OK {
		return err
	}
	s.heap.change(s.b, func(head *api.Head) { head.Slots = ahead + more })
	s.heap.storeAll(s.b, headCells, int64(a), int64(n))
	for i := range more {
		s.SetSlot(i, api.Value{})
	}
	return api.OK
}

// Hash is a key's. Handles and places come again, serials and bytes do not: by them the order of keys hangs on nothing that is collected.
func (s *slots) Hash(v api.Value) uint32 {
	switch {
	case !s.heap.leads(v):
		return text.Mix(v.T, v.N)
	case v.T == api.TStr:
		bytes, _ := s.heap.texts.Text(int(v.N))
		return text.Hash(bytes)
	}
	return text.Mix(v.T, int64(s.heap.head(int(v.N)).Serial))
}
