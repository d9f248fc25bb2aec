package heap

import (
	"heirloom/api"
	"heirloom/table"
)

// objects is a heap as its collector looks at it.
type objects struct{ *Heap }

// Order is the handles, rising.
func (o objects) Order() []int { return o.Handles() }

// Thing is an object.
func (o objects) Thing(b int) api.Thing {
	at := o.object(b)
	t := api.Thing{Kind: at.Head.Kind, Weak: at.Head.Weak, Slots: at.Slots, Fin: at.Head.Fin}
	if t.Kind == api.TTable {
		t.Array = int(at.Aux[arrayAux])
	}
	return t
}

// Kind is an object's; 0: it is not there.
func (o objects) Kind(b int) int { return o.head(b).Kind }

// Cells is how many cells an object takes.
func (o objects) Cells(b int) int { return o.Arena.Len(b) }

// Colour is an object's.
func (o objects) Colour(b int) int { return o.head(b).Colour }

// Age is an object's.
func (o objects) Age(b int) int { return o.head(b).Age }

// SetColour sets it.
func (o objects) SetColour(b, colour int) {
	o.change(b, func(head *api.Head) { head.Colour = colour })
}

// SetAge sets it.
func (o objects) SetAge(b, age int) {
	o.change(b, func(head *api.Head) { head.Age = age })
}

// SetFin sets a table's place among those that are marked.
func (o objects) SetFin(b, n int) {
	o.change(b, func(head *api.Head) { head.Fin = n })
}

// Clear clears an entry of a table.
func (o objects) Clear(b, slot int, key bool) {
	s := o.slotsOf(b, nil)
	if key {
		table.Kill(s, slot-ahead)
		return
	}
	s.SetSlot(slot-ahead, api.Value{})
}

// Drop drops an object: its text may be made anew.
func (o objects) Drop(b int) {
	o.texts.Drop(b)
	o.Arena.Free(b)
}
