package num_test

import (
	"math"
	"math/big"
	"math/rand"
	"testing"

	"heirloom/api"
	"heirloom/num"
)

// bigOp is Add, Sub or Mul of two ints without an end.
func bigOp(op int, a, b int64) *big.Int {
	x, y := big.NewInt(a), big.NewInt(b)
	switch op {
	case num.Add:
		return x.Add(x, y)
	case num.Sub:
		return x.Sub(x, y)
	}
	return x.Mul(x, y)
}

func TestP1_2OpOfInts(t *testing.T) {
	for _, op := range []int{num.Add, num.Sub, num.Mul} {
		for _, a := range sampleInts() {
			for _, b := range sampleInts() {
				want := integer(wrap(bigOp(op, a, b)))
				if v, err := num.Op(op, integer(a), integer(b)); err != api.OK || v != want {
					t.Errorf("Op(%d, %d, %d) = %v, %v; want %v", op, a, b, v, err, want)
				}
			}
		}
	}
}

// floatOp is what float64 says.
func floatOp(op int, a, b float64) float64 {
	switch op {
	case num.Add:
		return a + b
	case num.Sub:
		return a - b
	case num.Mul:
		return a * b
	}
	return a / b
}

// oneNaN is a TFloat of f, of every NaN the one of the language.
func oneNaN(f float64) api.Value {
	if math.IsNaN(f) {
		return bits(theNaN)
	}
	return float(f)
}

// asFloat is a number as a float64, without the package under test.
func asFloat(v api.Value) float64 {
	if v.T == api.TInt {
		return float64(v.N)
	}
	return math.Float64frombits(uint64(v.N))
}

func TestP1_2OpOfFloats(t *testing.T) {
	for op := num.Add; op <= num.Div; op++ {
		for _, a := range numbers() {
			for _, b := range numbers() {
				if op != num.Div && a.T == api.TInt && b.T == api.TInt {
					continue
				}
				want := oneNaN(floatOp(op, asFloat(a), asFloat(b)))
				if v, err := num.Op(op, a, b); err != api.OK || v != want {
					t.Errorf("Op(%d, %v, %v) = %v, %v; want %v", op, a, b, v, err, want)
				}
			}
		}
	}
}

func TestP1_2DivByZero(t *testing.T) {
	rows := []struct {
		a, b, want api.Value
	}{
		{integer(1), integer(0), float(math.Inf(1))},
		{integer(-1), integer(0), float(math.Inf(-1))},
		{integer(1), float(minusZero()), float(math.Inf(-1))},
		{integer(0), integer(0), bits(theNaN)},
		{float(minusZero()), integer(0), bits(theNaN)},
		{integer(1), integer(2), float(0.5)},
		{integer(6), integer(3), float(2)},
	}
	for _, r := range rows {
		if v, err := num.Op(num.Div, r.a, r.b); err != api.OK || v != r.want {
			t.Errorf("Op(Div, %v, %v) = %v, %v; want %v", r.a, r.b, v, err, r.want)
		}
	}
}

// floorDiv is the quotient rounded down and what is left, of ints without an end.
func floorDiv(a, b int64) (*big.Int, *big.Int) {
	x, y := big.NewInt(a), big.NewInt(b)
	q, r := new(big.Int).QuoRem(x, y, new(big.Int))
	if r.Sign() != 0 && r.Sign() != y.Sign() {
		q.Sub(q, big.NewInt(1))
		r.Add(r, y)
	}
	return q, r
}

func TestP1_2WholeDivision(t *testing.T) {
	for _, a := range numbers() {
		for _, b := range numbers() {
			x, isX := wholeNumber(t, a)
			y, isY := wholeNumber(t, b)
			if !isX || !isY || y == 0 {
				continue
			}
			q, r := floorDiv(x, y)
			if v, err := num.Op(num.IDiv, a, b); err != api.OK || v != integer(wrap(q)) {
				t.Errorf("Op(IDiv, %v, %v) = %v, %v; want %v", a, b, v, err, q)
			}
			if v, err := num.Op(num.Mod, a, b); err != api.OK || v != integer(wrap(r)) {
				t.Errorf("Op(Mod, %v, %v) = %v, %v; want %v", a, b, v, err, r)
			}
		}
	}
}

func TestP1_2WholeDivisionRows(t *testing.T) {
	rows := []struct {
		a, b, idiv, mod int64
	}{
		{7, 2, 3, 1}, {-7, 2, -4, 1}, {7, -2, -4, -1}, {-7, -2, 3, -1},
		{6, 2, 3, 0}, {-6, 2, -3, 0}, {6, -2, -3, 0}, {0, -5, 0, 0}, {1, -5, -1, -4}, {-1, 5, -1, 4},
		{math.MinInt64, -1, math.MinInt64, 0},
		{math.MinInt64, 1, math.MinInt64, 0},
		{math.MaxInt64, -1, -math.MaxInt64, 0},
		{math.MinInt64, math.MaxInt64, -2, math.MaxInt64 - 1},
		{math.MaxInt64, math.MinInt64, -1, -1},
		{-1, math.MinInt64, 0, -1},
		{1, math.MinInt64, -1, math.MinInt64 + 1},
	}
	for _, r := range rows {
		if v, err := num.Op(num.IDiv, integer(r.a), integer(r.b)); err != api.OK || v != integer(r.idiv) {
			t.Errorf("Op(IDiv, %d, %d) = %v, %v; want %d", r.a, r.b, v, err, r.idiv)
		}
		if v, err := num.Op(num.Mod, integer(r.a), integer(r.b)); err != api.OK || v != integer(r.mod) {
			t.Errorf("Op(Mod, %d, %d) = %v, %v; want %d", r.a, r.b, v, err, r.mod)
		}
	}
}

// wantRefusal is the error that P1.2 names first for an operation's arguments; OK: there is none.
func wantRefusal(t *testing.T, op int, a, b api.Value, numberA, numberB bool) api.Errno {
	t.Helper()
	if op < 1 || op > 6 {
		return api.ErrArg
	}
	if !numberA || !numberB {
		return api.ErrType
	}
	if op != num.IDiv && op != num.Mod {
		return api.OK
	}
	_, isA := wholeNumber(t, a)
	n, isB := wholeNumber(t, b)
	if !isA || !isB {
		return api.ErrInt
	}
	if n == 0 {
		return api.ErrZero
	}
	return api.OK
}

// P1 too: of several errors the first one, and nothing beside it.
func TestP1_2Refusals(t *testing.T) {
	known := len(numbers())
	for _, op := range []int{math.MinInt, -1, 0, 1, 2, 3, 4, 5, 6, 7, 8, math.MaxInt} {
		for i, a := range all() {
			for j, b := range all() {
				want := wantRefusal(t, op, a, b, i < known, j < known)
				v, err := num.Op(op, a, b)
				if err != want || err != api.OK && v != (api.Value{}) {
					t.Errorf("Op(%d, %v, %v) = %v, %v; want %v", op, a, b, v, err, want)
				}
			}
		}
	}
}

func TestP1_2RefusalsInOrder(t *testing.T) {
	none, half, zero := api.Value{}, num.Float(2.5), num.Int(0)
	rows := []struct {
		op   int
		a, b api.Value
		want api.Errno
	}{
		{0, none, none, api.ErrArg}, {7, zero, zero, api.ErrArg}, {-1, zero, zero, api.ErrArg},
		{num.Mod, half, none, api.ErrType}, {num.IDiv, none, zero, api.ErrType}, {num.Div, none, zero, api.ErrType},
		{num.Mod, half, zero, api.ErrInt}, {num.IDiv, half, zero, api.ErrInt}, {num.Mod, zero, half, api.ErrInt},
		{num.IDiv, num.Float(math.NaN()), zero, api.ErrInt}, {num.Mod, num.Int(1), num.Float(math.Inf(1)), api.ErrInt},
		{num.IDiv, num.Int(1), num.Float(1 << 63), api.ErrInt},
		{num.Mod, num.Int(7), zero, api.ErrZero}, {num.IDiv, zero, zero, api.ErrZero},
		{num.Mod, num.Int(7), num.Float(minusZero()), api.ErrZero},
		{num.Add, bits(0x7ff8000000000000), zero, api.ErrType}, {num.Add, zero, bits(0xfff8000000000001), api.ErrType},
	}
	for _, r := range rows {
		v, err := num.Op(r.op, r.a, r.b)
		refused(t, r.want, "Op", v, err)
	}
}

func TestP1_2Neg(t *testing.T) {
	for _, n := range sampleInts() {
		want := integer(wrap(new(big.Int).Neg(big.NewInt(n))))
		if v, err := num.Neg(integer(n)); err != api.OK || v != want {
			t.Errorf("Neg(%d) = %v, %v; want %v", n, v, err, want)
		}
	}
	for _, f := range sampleFloats() {
		want := bits(math.Float64bits(f) ^ 1<<63)
		if v, err := num.Neg(float(f)); err != api.OK || v != want {
			t.Errorf("Neg(%g) = %v, %v; want %v", f, v, err, want)
		}
	}
	if v, err := num.Neg(bits(theNaN)); err != api.OK || v != bits(theNaN) {
		t.Errorf("Neg(NaN) = %v, %v", v, err)
	}
	for _, v := range noNumbers() {
		w, err := num.Neg(v)
		refused(t, api.ErrType, "Neg", w, err)
	}
}

// addsUp fails unless b times IDiv, and Mod, are a, and Mod is 0 or of b's sign and nearer to 0 than b.
func addsUp(t *testing.T, a, b int64) {
	t.Helper()
	q, err := num.Op(num.IDiv, integer(a), integer(b))
	if err != api.OK {
		t.Fatalf("Op(IDiv, %d, %d): %v", a, b, err)
	}
	r, err := num.Op(num.Mod, integer(a), integer(b))
	if err != api.OK {
		t.Fatalf("Op(Mod, %d, %d): %v", a, b, err)
	}
	product, _ := num.Op(num.Mul, integer(b), q)
	sum, _ := num.Op(num.Add, product, r)
	if sum != integer(a) {
		t.Errorf("of %d and %d: quotient %v and rest %v are %v", a, b, q, r, sum)
	}
	if r.N != 0 && ((r.N < 0) != (b < 0) || b < 0 && r.N <= b || b > 0 && r.N >= b) {
		t.Errorf("Op(Mod, %d, %d) = %v", a, b, r)
	}
}

func TestP1_8DivisionAddsUp(t *testing.T) {
	for _, a := range sampleInts() {
		for _, b := range sampleInts() {
			if b != 0 {
				addsUp(t, a, b)
			}
		}
	}
	source := rand.New(rand.NewSource(8))
	for range 20000 {
		a, b := int64(source.Uint64())>>source.Intn(64), int64(source.Uint64())>>source.Intn(64)
		if b != 0 {
			addsUp(t, a, b)
		}
	}
}

func TestExamplesOfOp(t *testing.T) {
	rows := []struct {
		op   int
		a, b api.Value
		want api.Value
		err  api.Errno
	}{
		{num.Add, num.Int(math.MaxInt64), num.Int(1), num.Int(math.MinInt64), api.OK},
		{num.Div, num.Int(1), num.Int(0), num.Float(math.Inf(1)), api.OK},
		{num.IDiv, num.Int(-7), num.Int(2), num.Int(-4), api.OK},
		{num.Mod, num.Int(-7), num.Int(2), num.Int(1), api.OK},
		{num.Mod, num.Int(7), num.Int(0), api.Value{}, api.ErrZero},
		{num.Mod, num.Float(2.5), num.Int(1), api.Value{}, api.ErrInt},
	}
	for _, r := range rows {
		if v, err := num.Op(r.op, r.a, r.b); v != r.want || err != r.err {
			t.Errorf("Op(%d, %v, %v) = %v, %v; want %v, %v", r.op, r.a, r.b, v, err, r.want, r.err)
		}
	}
}
