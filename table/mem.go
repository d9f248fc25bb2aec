package table

import (
	"heirloom/api"
	"heirloom/text"
)

// Mem is a store in memory.
type Mem struct {
	most         int
	array, nodes int
	slots        map[int]api.Value // those that are not nil: a store may have more slots than memory has room for
}

// NewMem is a store without slots, of so many at the most.
func NewMem(most int) *Mem { return &Mem{most: most} }

// Array is how many array slots there are.
func (m *Mem) Array() int {
	if m == nil {
		return 0
	}
	return m.array
}

// Nodes is how many nodes there are.
func (m *Mem) Nodes() int {
	if m == nil {
		return 0
	}
	return m.nodes
}

// Slot is what lies in a slot.
func (m *Mem) Slot(i int) api.Value {
	if m == nil {
		return api.Value{}
	}
	return m.slots[i]
}

// SetSlot is that something lies in a slot.
func (m *Mem) SetSlot(i int, v api.Value) {
	if i < 0 || i >= m.Array()+2*m.Nodes() {
		return
	}
	if v == (api.Value{}) {
		delete(m.slots, i)
		return
	}
	m.slots[i] = v
}

// Resize is that there are other slots, all nil.
func (m *Mem) Resize(a, n int) api.Errno {
	if m == nil {
		return api.ErrNil
	}
	if a < 0 || n < 0 || n&(n-1) != 0 {
		return api.ErrArg
	}
	if a > m.most || n > (m.most-a)/2 { // a + 2n may be more than an int holds
		return api.ErrFull
	}
	m.array, m.nodes, m.slots = a, n, map[int]api.Value{}
	return api.OK
}

// Hash is a key's.
func (m *Mem) Hash(v api.Value) uint32 {
	if m == nil {
		return 0
	}
	return text.Mix(v.T, v.N)
}
