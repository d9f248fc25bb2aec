package collect

import "heirloom/api"

// isWeak tells whether an object is a table that holds weakly.
func isWeak(t api.Thing) bool {
	return t.Kind == api.TTable && t.Weak >= api.WeakKeys && t.Weak <= api.WeakBoth
}

// An entry is a slot with a value of a table, and the key ahead of it: nil, if it has none.
type entry struct {
	slot       int
	key, value api.Value
}

// entriesOf lists the entries of a table, rising; the first one is the metatable, which no table holds weakly.
func entriesOf(t api.Thing) []entry {
	var l []entry
	for slot := 0; slot < len(t.Slots); slot++ {
		var x entry
		if slot > max(0, t.Array) && slot+1 < len(t.Slots) {
			x.key = t.Slots[slot]
			slot++
		}
		x.slot, x.value = slot, t.Slots[slot]
		l = append(l, x)
	}
	return l
}

// weakOne is a table that holds weakly, as the end of marking has it.
type weakOne struct {
	h, weak int
	waits   []entry // those that it did not lead to when it was asked last
}

// holdsKeys tells whether keys are held weakly.
func (w *weakOne) holdsKeys() bool { return w.weak&api.WeakKeys != 0 }

// holdsValue tells whether the value of an entry is held weakly, if it is one that may be.
func (w *weakOne) holdsValue(x entry) bool { return w.weak&api.WeakValues != 0 && x.slot > 0 }
