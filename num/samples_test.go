package num_test

import (
	"math"
	"math/big"
	"testing"

	"heirloom/api"
	"heirloom/num"
)

const theNaN = uint64(0x7ff8000000000001)

// bits is a TFloat of some bits, made without the package under test.
func bits(b uint64) api.Value { return api.Value{T: api.TFloat, N: int64(b)} }

// float is a TFloat that is no NaN, made without the package under test.
func float(f float64) api.Value { return bits(math.Float64bits(f)) }

// integer is a TInt, made without the package under test.
func integer(n int64) api.Value { return api.Value{T: api.TInt, N: n} }

func minusZero() float64 { return math.Copysign(0, -1) }

func sampleInts() []int64 {
	return []int64{
		0, 1, -1, 2, -2, 3, -3, 7, -7, 10, -10, 255, 1 << 31, -1 << 31, 1<<32 + 1,
		1<<53 - 1, 1 << 53, 1<<53 + 1, 1<<53 + 2, 1<<53 + 3, -1<<53 + 1, -1 << 53, -1<<53 - 1, -1<<53 - 2,
		1 << 62, 1<<62 + 1, -1 << 62, -1<<62 - 1,
		math.MaxInt64, math.MaxInt64 - 1, math.MaxInt64 - 511, math.MaxInt64 - 512, math.MaxInt64 - 1023,
		math.MinInt64, math.MinInt64 + 1, math.MinInt64 + 512, math.MinInt64 + 1024,
	}
}

// sampleFloats has no NaN.
func sampleFloats() []float64 {
	return []float64{
		0, minusZero(), 1, -1, 2, -2, 7, -7, 10, 0.5, -0.5, 1.5, 2.5, -2.5, 0.1, -0.1,
		1<<53 - 1, 1 << 53, 1<<53 + 2, -1<<53 + 1, -1 << 53, -1<<53 - 2, 1<<52 + 0.5, -1<<52 - 0.5,
		1 << 62, -1 << 62, 1 << 63, -1 << 63, 1 << 64, -1 << 64,
		math.Nextafter(1<<63, 0), math.Nextafter(1<<63, math.Inf(1)),
		math.Nextafter(-1<<63, 0), math.Nextafter(-1<<63, math.Inf(-1)),
		math.SmallestNonzeroFloat64, -math.SmallestNonzeroFloat64, math.MaxFloat64, -math.MaxFloat64,
		math.Inf(1), math.Inf(-1),
	}
}

// ordered are numbers but NaNs.
func ordered() []api.Value {
	var l []api.Value
	for _, n := range sampleInts() {
		l = append(l, integer(n))
	}
	for _, f := range sampleFloats() {
		l = append(l, float(f))
	}
	return l
}

// numbers are numbers of all kinds.
func numbers() []api.Value { return append(ordered(), bits(theNaN)) }

// wrongNaNs are bits of NaNs that no number has.
func wrongNaNs() []uint64 {
	return []uint64{
		0x7ff8000000000000, 0x7ff8000000000002, 0xfff8000000000000, 0xfff8000000000001,
		0x7ff0000000000001, 0xfff0000000000001, 0x7fffffffffffffff, 0xffffffffffffffff, 0x7ff4000000000001,
	}
}

// noNumbers are values that are no number.
func noNumbers() []api.Value {
	l := []api.Value{{}, {T: api.TNil, N: 1}, {T: api.TBool}, {T: api.TBool, N: 1}, {T: -1, N: 1}, {T: 12, N: 1}, {T: math.MaxInt, N: 1}, {T: math.MinInt, N: 1}}
	for t := api.TStr; t <= api.TDead; t++ {
		l = append(l, api.Value{T: t, N: 1})
	}
	for _, b := range wrongNaNs() {
		l = append(l, bits(b))
	}
	return l
}

// all are numbers and others.
func all() []api.Value { return append(numbers(), noNumbers()...) }

// exact is what a finite number truly is.
func exact(t *testing.T, v api.Value) *big.Rat {
	t.Helper()
	r := new(big.Rat)
	if v.T == api.TInt {
		return r.SetInt64(v.N)
	}
	if r.SetFloat64(math.Float64frombits(uint64(v.N))) == nil {
		t.Fatalf("%v is not finite", v)
	}
	return r
}

// infinite is the sign of an infinity, and 0 of all others.
func infinite(v api.Value) int {
	switch v {
	case float(math.Inf(1)):
		return 1
	case float(math.Inf(-1)):
		return -1
	}
	return 0
}

// wholeNumber is the int that a number is, reckoned without floats.
func wholeNumber(t *testing.T, v api.Value) (int64, bool) {
	t.Helper()
	if v == bits(theNaN) || infinite(v) != 0 {
		return 0, false
	}
	r := exact(t, v)
	if !r.IsInt() || !r.Num().IsInt64() {
		return 0, false
	}
	return r.Num().Int64(), true
}

// wrap is an int modulo 2^64.
func wrap(n *big.Int) int64 {
	low := new(big.Int).And(n, new(big.Int).SetUint64(math.MaxUint64))
	return int64(low.Uint64())
}

func sameBits(a, b float64) bool { return math.Float64bits(a) == math.Float64bits(b) }

// refused fails unless an operation's answer is that error and nothing beside it.
func refused(t *testing.T, want api.Errno, what string, v api.Value, err api.Errno) {
	t.Helper()
	if err != want || v != (api.Value{}) {
		t.Errorf("%s = %v, %v; want nothing and %v", what, v, err, want)
	}
}

func TestSamplesAreWhatTheySay(t *testing.T) {
	for _, b := range append(wrongNaNs(), theNaN) {
		if !math.IsNaN(math.Float64frombits(b)) {
			t.Errorf("%x is no NaN", b)
		}
	}
	if num.Add != 1 || num.Sub != 2 || num.Mul != 3 || num.Div != 4 || num.IDiv != 5 || num.Mod != 6 {
		t.Error("the operations have other numbers")
	}
}
