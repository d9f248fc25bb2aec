package reach

import (
	"iter"
	"slices"

	"heirloom/api"
)

// objectType tells whether values of a type stand for objects.
func objectType(t int) bool { return t >= api.TStr && t <= api.TProto }

// isObject tells whether a value is one of the objects.
func isObject(things []api.Thing, v api.Value) bool {
	return objectType(v.T) && v.N >= 1 && v.N <= int64(len(things)) && things[v.N-1].Kind == v.T
}

// heldWeakly tells whether a table that holds weakly does so with a value: texts are held as numbers are.
func heldWeakly(things []api.Thing, v api.Value) bool {
	return v.T != api.TStr && isObject(things, v)
}

// isWeak tells whether an object is a table that holds weakly.
func isWeak(t api.Thing) bool {
	return t.Kind == api.TTable && t.Weak >= api.WeakKeys && t.Weak <= api.WeakBoth
}

// values goes through the slots of a table's values, rising, each with the key ahead of it, whatever its Array is. Those without one have the key nil, which nobody holds weakly.
func values(t api.Thing) iter.Seq2[int, api.Value] {
	return func(yield func(int, api.Value) bool) {
		for slot := 1; slot < len(t.Slots); slot++ {
			var key api.Value
			if slot > t.Array && slot+1 < len(t.Slots) {
				key = t.Slots[slot]
				slot++
			}
			if !yield(slot, key) {
				return
			}
		}
	}
}

// rightThing tells whether an object is right by itself.
func rightThing(t api.Thing) bool {
	if !objectType(t.Kind) || t.Array < 0 || t.Array > max(0, len(t.Slots)-1) {
		return false
	}
	if t.Kind != api.TTable {
		return t.Weak == api.WeakNone && t.Fin == 0
	}
	return t.Weak >= api.WeakNone && t.Weak <= api.WeakBoth && t.Fin >= 0
}

// rightValues tells whether all that are of an object's type are objects.
func rightValues(things []api.Thing, l []api.Value) bool {
	return !slices.ContainsFunc(l, func(v api.Value) bool {
		return objectType(v.T) && !isObject(things, v)
	})
}

// finTwice tells whether two objects have the same place among those marked for a finaliser.
func finTwice(things []api.Thing) bool {
	times := make(map[int]int)
	for _, t := range things {
		times[t.Fin]++
		if t.Fin != 0 && times[t.Fin] > 1 {
			return true
		}
	}
	return false
}
