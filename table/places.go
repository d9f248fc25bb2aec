package table

import (
	"iter"
	"math"

	"heirloom/api"
	"heirloom/num"
)

// none is a place that there is not.
const none = -1

func isNil(v api.Value) bool { return v.T == api.TNil }

func isObject(v api.Value) bool { return v.T >= api.TStr && v.T <= api.TProto }

// isKey: a value may be a key.
func isKey(v api.Value) bool {
	if v.T == api.TFloat {
		f, is := num.Of(v) // bits of a NaN that no number has are refused as the one that is a number is
		return is && !math.IsNaN(f)
	}
	return !isNil(v) && v.T != api.TDead
}

// find is the place of a key's value, and true; else the place for it in the free node at the end of its way, or none.
func find(s Store, k api.Value) (at int, there bool) {
	if k.T == api.TInt && k.N >= 1 && k.N <= int64(s.Array()) {
		return int(k.N - 1), true
	}
	for at := range way(s, k) {
		switch met := s.Slot(at); {
		case met == k:
			return at + 1, true
		case isNil(met):
			return at + 1, false
		}
	}
	return none, false
}

// way goes over the places of the nodes' keys, in the order in which a key is looked for: each of them once.
func way(s Store, k api.Value) iter.Seq[int] {
	return func(yield func(int) bool) {
		a, n := s.Array(), s.Nodes()
		if n < 1 {
			return
		}
		first := int(uint64(s.Hash(k)) % uint64(n))
		for i := range n {
			if !yield(a + 2*((first+i)%n)) {
				return
			}
		}
	}
}

// values goes over the places of values, array slots, then nodes, from a place on.
func values(s Store, from int) iter.Seq[int] {
	return func(yield func(int) bool) {
		a, n := s.Array(), s.Nodes()
		for at := from; at < a; at++ {
			if !yield(at) {
				return
			}
		}
		for i := max(from-a, 0) / 2; i < n; i++ {
			if !yield(a + 2*i + 1) {
				return
			}
		}
	}
}

// entries goes over the keys whose value is not nil, with it, in the order of values.
func entries(s Store, from int) iter.Seq2[api.Value, api.Value] {
	return func(yield func(k, v api.Value) bool) {
		for at := range values(s, from) {
			k, v := keyOf(s, at), s.Slot(at)
			if isKey(k) && !isNil(v) && !yield(k, v) {
				return
			}
		}
	}
}

// behind is the place from which on there are the keys behind a key, of nil all keys; false: the key has no place.
func behind(s Store, k api.Value) (from int, is bool) {
	if isNil(k) {
		return 0, true
	}
	if !isKey(k) { // a TDead may lie in a node, and is not to be found
		return 0, false
	}
	at, there := find(s, num.Key(k))
	return at + 1, there
}

// isValuePlace: a value may lie in a slot, and no key.
func isValuePlace(s Store, i int) bool {
	node := i - s.Array()
	return i >= 0 && (node < 0 || node%2 == 1 && node/2 < s.Nodes())
}

// keyOf is the key whose value lies in a place.
func keyOf(s Store, at int) api.Value {
	if at < s.Array() {
		return num.Int(int64(at) + 1)
	}
	return s.Slot(at - 1)
}
