package table

import (
	"math/bits"

	"heirloom/api"
)

// greatest is the power of two that the greatest array size is.
const greatest = 12

// entry is a key with its value.
type entry struct{ k, v api.Value }

// put gives a key a value, in a free node if it has no place; false: there is none.
func put(s Store, k, v api.Value) bool {
	at, there := find(s, k)
	switch {
	case there:
		s.SetSlot(at, v)
	case isNil(v): // what has no value takes no room
	case at == none:
		return false
	default:
		s.SetSlot(at-1, k)
		s.SetSlot(at, v)
	}
	return true
}

// renew gives a store the slots that its keys and a new one need; all keys but the new one have their values in them then.
func renew(s Store, more api.Value) api.Errno {
	var kept []entry // taken out first: other slots are empty
	for k, v := range entries(s, 0) {
		kept = append(kept, entry{k, v})
	}
	a, n := sizes(append(kept, entry{k: more}))
	if err := s.Resize(a, n); err != api.OK {
		return err
	}
	for _, e := range kept {
		put(s, e.k, e.v)
	}
	return api.OK
}

// sizes is how many array slots and nodes the keys of these entries need.
func sizes(l []entry) (a, n int) {
	inArray, all := 0, 0
	for power, more := range atPowers(l) {
		all += more
		if 2*all > 1<<power {
			a, inArray = 1<<power, all
		}
	}
	return a, atLeast(len(l) - inArray)
}

// atPowers counts the ints from 1 on by the least power of two that is not below them: each is within that size and the greater ones.
func atPowers(l []entry) [greatest + 1]int {
	var counts [greatest + 1]int
	for _, e := range l {
		if e.k.T == api.TInt && e.k.N >= 1 && e.k.N <= 1<<greatest {
			counts[bits.Len64(uint64(e.k.N-1))]++
		}
	}
	return counts
}

// atLeast is the least power of two that is not below n; 0 of 0.
func atLeast(n int) int {
	if n == 0 {
		return 0
	}
	return 1 << bits.Len(uint(n-1))
}
