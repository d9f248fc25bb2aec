package num_test

import (
	"math"
	"math/big"
	"testing"

	"heirloom/api"
	"heirloom/num"
)

func TestP1_1Int(t *testing.T) {
	for _, n := range sampleInts() {
		if v := num.Int(n); v != integer(n) {
			t.Errorf("Int(%d) = %v", n, v)
		}
	}
}

func TestP1_1Float(t *testing.T) {
	for _, f := range sampleFloats() {
		if v := num.Float(f); v != float(f) {
			t.Errorf("Float(%g) = %v", f, v)
		}
	}
	for _, b := range append(wrongNaNs(), theNaN) {
		if v := num.Float(math.Float64frombits(b)); v != bits(theNaN) {
			t.Errorf("Float of the NaN %x = %v", b, v)
		}
	}
}

func TestP1_1Is(t *testing.T) {
	for _, v := range numbers() {
		if !num.Is(v) {
			t.Errorf("Is(%v) = false", v)
		}
	}
	for _, v := range noNumbers() {
		if num.Is(v) {
			t.Errorf("Is(%v) = true", v)
		}
	}
}

func TestP1_1OfInts(t *testing.T) {
	for _, n := range sampleInts() {
		want, _ := new(big.Float).SetInt64(n).Float64() // rounds to the nearest, of two as near to the even one
		if f, is := num.Of(integer(n)); !is || !sameBits(f, want) {
			t.Errorf("Of(%d) = %v, %v; want %v", n, f, is, want)
		}
	}
	rows := []struct {
		n    int64
		want float64
	}{
		{1<<53 + 1, 1 << 53}, {1<<53 + 3, 1<<53 + 4}, {-1<<53 - 1, -1 << 53}, {-1<<53 - 3, -1<<53 - 4},
		{math.MaxInt64, 1 << 63}, {math.MaxInt64 - 511, 1 << 63}, {math.MaxInt64 - 512, 1<<63 - 1024}, {math.MinInt64, -1 << 63},
	}
	for _, r := range rows {
		if f, is := num.Of(integer(r.n)); !is || f != r.want {
			t.Errorf("Of(%d) = %v, %v; want %v", r.n, f, is, r.want)
		}
	}
}

func TestP1_1OfOthers(t *testing.T) {
	for _, f := range append(sampleFloats(), math.Float64frombits(theNaN)) {
		if g, is := num.Of(float(f)); !is || !sameBits(f, g) {
			t.Errorf("Of(%g) = %v, %v", f, g, is)
		}
	}
	for _, v := range noNumbers() {
		if f, is := num.Of(v); is || !sameBits(f, 0) {
			t.Errorf("Of(%v) = %v, %v", v, f, is)
		}
	}
}

func TestP1_1Whole(t *testing.T) {
	for _, v := range numbers() {
		n, err := num.Whole(v)
		want, is := wholeNumber(t, v)
		if is && (err != api.OK || n != want) {
			t.Errorf("Whole(%v) = %d, %v; want %d", v, n, err, want)
		}
		if !is && (err != api.ErrInt || n != 0) {
			t.Errorf("Whole(%v) = %d, %v; want ErrInt", v, n, err)
		}
	}
	for _, v := range noNumbers() {
		if n, err := num.Whole(v); err != api.ErrType || n != 0 {
			t.Errorf("Whole(%v) = %d, %v; want ErrType", v, n, err)
		}
	}
}

func TestP1_1WholeAtItsEnds(t *testing.T) {
	rows := []struct {
		f    float64
		want int64
		err  api.Errno
	}{
		{-1 << 63, math.MinInt64, api.OK},
		{math.Nextafter(-1<<63, math.Inf(-1)), 0, api.ErrInt},
		{1 << 63, 0, api.ErrInt},
		{math.Nextafter(1<<63, 0), 1<<63 - 1024, api.OK},
		{minusZero(), 0, api.OK},
		{math.SmallestNonzeroFloat64, 0, api.ErrInt},
		{-0.5, 0, api.ErrInt},
		{math.Inf(1), 0, api.ErrInt},
		{math.Inf(-1), 0, api.ErrInt},
		{math.NaN(), 0, api.ErrInt},
	}
	for _, r := range rows {
		if n, err := num.Whole(num.Float(r.f)); n != r.want || err != r.err {
			t.Errorf("Whole(%g) = %d, %v; want %d, %v", r.f, n, err, r.want, r.err)
		}
	}
}

// trueOrder is how two numbers but NaNs stand, reckoned without rounding.
func trueOrder(t *testing.T, a, b api.Value) int {
	t.Helper()
	if infinite(a) != 0 || infinite(b) != 0 {
		return infinite(a) - infinite(b)
	}
	return exact(t, a).Cmp(exact(t, b))
}

func sign(n int) int {
	switch {
	case n < 0:
		return -1
	case n > 0:
		return 1
	}
	return 0
}

func TestP1_3Cmp(t *testing.T) {
	for _, a := range ordered() {
		for _, b := range ordered() {
			want := sign(trueOrder(t, a, b))
			if c, is := num.Cmp(a, b); !is || c != want {
				t.Errorf("Cmp(%v, %v) = %d, %v; want %d", a, b, c, is, want)
			}
		}
	}
}

func TestP1_3CmpOfNoPlace(t *testing.T) {
	without := append(noNumbers(), bits(theNaN))
	for _, a := range without {
		for _, b := range all() {
			if c, is := num.Cmp(a, b); is || c != 0 {
				t.Errorf("Cmp(%v, %v) = %d, %v", a, b, c, is)
			}
			if c, is := num.Cmp(b, a); is || c != 0 {
				t.Errorf("Cmp(%v, %v) = %d, %v", b, a, c, is)
			}
		}
	}
}

func TestP1_3CmpIsNotRounded(t *testing.T) {
	rows := []struct {
		a, b api.Value
		want int
	}{
		{integer(1<<53 + 1), float(1 << 53), 1},
		{integer(-1<<53 - 1), float(-1 << 53), -1},
		{integer(math.MaxInt64), float(1 << 63), -1},
		{integer(math.MinInt64), float(-1 << 63), 0},
		{integer(math.MinInt64), float(math.Nextafter(-1<<63, math.Inf(-1))), 1},
		{integer(0), float(minusZero()), 0},
		{float(0), float(minusZero()), 0},
		{integer(0), float(math.SmallestNonzeroFloat64), -1},
		{integer(0), float(-math.SmallestNonzeroFloat64), 1},
		{integer(math.MaxInt64), float(math.Inf(1)), -1},
		{integer(math.MinInt64), float(math.Inf(-1)), 1},
	}
	for _, r := range rows {
		if c, is := num.Cmp(r.a, r.b); !is || c != r.want {
			t.Errorf("Cmp(%v, %v) = %d, %v; want %d", r.a, r.b, c, is, r.want)
		}
		if c, is := num.Cmp(r.b, r.a); !is || c != -r.want {
			t.Errorf("Cmp(%v, %v) = %d, %v; want %d", r.b, r.a, c, is, -r.want)
		}
	}
}

func TestP1_4Key(t *testing.T) {
	for _, v := range numbers() {
		want := v
		if n, is := wholeNumber(t, v); is {
			want = integer(n)
		}
		if k := num.Key(v); k != want {
			t.Errorf("Key(%v) = %v; want %v", v, k, want)
		}
	}
	for _, v := range noNumbers() {
		if k := num.Key(v); k != v {
			t.Errorf("Key(%v) = %v", v, k)
		}
	}
	if k := num.Key(num.Float(minusZero())); k != integer(0) {
		t.Errorf("Key(-0) = %v", k)
	}
}

func TestP1_7Order(t *testing.T) {
	l := ordered()
	for _, a := range l {
		for _, b := range l {
			there, _ := num.Cmp(a, b)
			back, _ := num.Cmp(b, a)
			if there != -back {
				t.Errorf("Cmp(%v, %v) = %d, turned round %d", a, b, there, back)
			}
			if same := num.Key(a) == num.Key(b); same != (there == 0) {
				t.Errorf("Cmp(%v, %v) = %d, their keys %v, %v", a, b, there, num.Key(a), num.Key(b))
			}
			for _, c := range l {
				on, _ := num.Cmp(b, c)
				over, _ := num.Cmp(a, c)
				if there <= 0 && on <= 0 && over > 0 {
					t.Fatalf("Cmp of %v, %v is %d, then with %v %d, but over both %d", a, b, there, c, on, over)
				}
			}
		}
	}
}
