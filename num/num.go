// Package num is layer 1: numbers: see shared/doc/01-num.md.
package num

import (
	"cmp"
	"math"

	"heirloom/api"
)

// nanBits are the bits of the one NaN that is a number of the language, so that values can be held against each other by their bits.
const nanBits = 0x7ff8000000000001

// Int is a whole number.
func Int(n int64) api.Value { return api.Value{T: api.TInt, N: n} }

// Float is a number with a point.
func Float(f float64) api.Value {
	if math.IsNaN(f) {
		return ofBits(nanBits)
	}
	return ofBits(math.Float64bits(f))
}

func ofBits(bits uint64) api.Value { return api.Value{T: api.TFloat, N: int64(bits)} }

// pointed is what the bits of a TFloat say.
func pointed(v api.Value) float64 { return math.Float64frombits(uint64(v.N)) }

// Is tells whether a value is a number.
func Is(v api.Value) bool {
	switch v.T {
	case api.TInt:
		return true
	case api.TFloat:
		return uint64(v.N) == nanBits || !math.IsNaN(pointed(v))
	}
	return false
}

// Of is a number as a float64.
func Of(v api.Value) (float64, bool) {
	switch {
	case !Is(v):
		return 0, false
	case v.T == api.TInt:
		return float64(v.N), true
	}
	return pointed(v), true
}

// Whole is a number as an int.
func Whole(v api.Value) (int64, api.Errno) {
	switch {
	case !Is(v):
		return 0, api.ErrType
	case v.T == api.TInt:
		return v.N, api.OK
	}
	f := pointed(v)
	if !withinInts(f) || f != math.Floor(f) {
		return 0, api.ErrInt
	}
	return int64(f), api.OK
}

// withinInts tells whether f, rounded down, is an int64. 2^63 itself is a float64 and no int64, so the upper end is open.
func withinInts(f float64) bool { return f >= -1<<63 && f < 1<<63 }

// Key is a value as a key of tables.
func Key(v api.Value) api.Value {
	n, err := Whole(v)
	if err != api.OK {
		return v
	}
	return Int(n)
}

// Cmp tells which of two numbers is the greater one.
func Cmp(a, b api.Value) (int, bool) {
	if !hasPlace(a) || !hasPlace(b) {
		return 0, false
	}
	switch {
	case a.T == api.TInt && b.T == api.TInt:
		return cmp.Compare(a.N, b.N), true
	case a.T == api.TInt:
		return compareMixed(a.N, pointed(b)), true
	case b.T == api.TInt:
		return -compareMixed(b.N, pointed(a)), true
	}
	return cmp.Compare(pointed(a), pointed(b)), true
}

// hasPlace tells whether a value has a place among the ordered numbers.
func hasPlace(v api.Value) bool {
	f, is := Of(v)
	return is && !math.IsNaN(f)
}

// compareMixed compares with f rounded down rather than with n as a float64: above 2^53 the latter may be another number.
func compareMixed(n int64, f float64) int {
	if !withinInts(f) {
		return cmp.Compare(0, f)
	}
	down := math.Floor(f)
	if c := cmp.Compare(n, int64(down)); c != 0 {
		return c
	}
	return cmp.Compare(down, f)
}
