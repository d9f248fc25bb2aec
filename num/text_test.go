package num_test

import (
	"fmt"
	"math"
	"math/big"
	"math/rand"
	"regexp"
	"strings"
	"testing"

	"heirloom/api"
	"heirloom/num"
)

func TestP1_5Text(t *testing.T) {
	for _, n := range sampleInts() {
		if s := num.Text(integer(n)); s != fmt.Sprintf("%d", n) {
			t.Errorf("Text(%d) = %q", n, s)
		}
	}
	for _, f := range append(sampleFloats(), math.Float64frombits(theNaN)) {
		if s := num.Text(float(f)); s != fmt.Sprintf("0f%016x", math.Float64bits(f)) {
			t.Errorf("Text(%g) = %q", f, s)
		}
	}
	for _, v := range noNumbers() {
		if s := num.Text(v); s != "" {
			t.Errorf("Text(%v) = %q", v, s)
		}
	}
}

func TestP1_5TextRows(t *testing.T) {
	rows := []struct {
		v    api.Value
		want string
	}{
		{num.Float(1), "0f3ff0000000000000"},
		{num.Float(0), "0f0000000000000000"},
		{num.Float(minusZero()), "0f8000000000000000"},
		{num.Float(math.SmallestNonzeroFloat64), "0f0000000000000001"},
		{num.Float(math.Inf(-1)), "0ffff0000000000000"},
		{num.Float(math.NaN()), "0f7ff8000000000001"},
		{num.Int(0), "0"},
		{num.Int(math.MinInt64), "-9223372036854775808"},
		{num.Int(math.MaxInt64), "9223372036854775807"},
	}
	for _, r := range rows {
		if s := num.Text(r.v); s != r.want {
			t.Errorf("Text(%v) = %q; want %q", r.v, s, r.want)
		}
	}
}

func TestP1_5Read(t *testing.T) {
	rows := []struct {
		s    string
		want api.Value
	}{
		{"0", integer(0)}, {"-0", integer(0)}, {"7", integer(7)}, {"-7", integer(-7)}, {"007", integer(7)}, {"-007", integer(-7)},
		{"9223372036854775807", integer(math.MaxInt64)}, {"-9223372036854775807", integer(-math.MaxInt64)},
		{"-9223372036854775808", integer(math.MinInt64)},
		{strings.Repeat("0", 100) + "12", integer(12)},
		{"-" + strings.Repeat("0", 100) + "9223372036854775808", integer(math.MinInt64)},
		{"1.5", float(1.5)}, {"-1.5", float(-1.5)}, {"0.0", float(0)}, {"-0.0", float(minusZero())}, {"1.0", float(1)},
		{"00.10", float(0.1)}, {"0.1", float(0.1)}, {"0.3", float(0.3)}, {"123.456", float(123.456)},
		{"12345678901234.5", float(12345678901234.5)}, {"1.23456789012345", float(1.23456789012345)},
		{"0.00000000000001", float(1e-14)}, {"99999999999999.9", float(99999999999999.9)}, {"-9.99999999999999", float(-9.99999999999999)},
		{"0f3ff0000000000000", float(1)}, {"0f8000000000000000", float(minusZero())}, {"0f0000000000000000", float(0)},
		{"0f7ff0000000000000", float(math.Inf(1))}, {"0ffff0000000000000", float(math.Inf(-1))}, {"0f7ff8000000000001", bits(theNaN)},
		{"0f7fefffffffffffff", float(math.MaxFloat64)}, {"0f0000000000000001", float(math.SmallestNonzeroFloat64)},
	}
	for _, r := range rows {
		if v, err := num.Read(r.s); err != api.OK || v != r.want {
			t.Errorf("Read(%q) = %v, %v; want %v", r.s, v, err, r.want)
		}
	}
}

func TestP1_5ReadRefusesForms(t *testing.T) {
	texts := []string{
		"", " ", "-", "--1", "+1", "- 1", " 1", "1 ", "1\n", "1\x00", "\x001", "1-", "1-1", "-+1", "x", "1x", "x1", "1e5", "1_000", "0x10", "0b1", "0o7",
		".", "1.", ".5", "-.5", "-1.", "1..5", "1.5.", "1.2.3", "1.-5", "1. 5", "--1.5", "1.5e1", "1.5x", "-.", "1,5", "1._5", "1_0.5",
		"0f", "0f1", "0f3ff000000000000", "0f3ff00000000000000", "0f3FF0000000000000", "0F3ff0000000000000", "-0f3ff0000000000000",
		"0f-ff0000000000000", "0f3ff000000000000g", "0f3ff000000000000 ", " 0f3ff0000000000000", "00f3ff0000000000000", "0f3ff.000000000000", "0f+3ff000000000000", "0f0_00000000000000",
		"f3ff0000000000000", "1f3ff0000000000000", "0f0f3ff0000000000000", "0x3ff0000000000000",
		"inf", "Inf", "NaN", "nan", "-inf", "nil", "true",
		"\xff", "1\xff", "１", "1٣", "١", "\u00b2", "0f３ff0000000000000",
		"99999999999999999999x", "-99999999999999999999-", "99999999999999999999.", "12345678901234567.x", "1234567890123456.7.8", ".1234567890123456",
	}
	for _, b := range wrongNaNs() {
		texts = append(texts, fmt.Sprintf("0f%016x", b))
	}
	for _, s := range texts {
		v, err := num.Read(s)
		refused(t, api.ErrForm, fmt.Sprintf("Read(%q)", s), v, err)
	}
}

func TestP1_5ReadRefusesRanges(t *testing.T) {
	texts := []string{
		"9223372036854775808", "-9223372036854775809", "9223372036854775809", "18446744073709551615", "18446744073709551616", "18446744073709551617",
		"-18446744073709551616", "99999999999999999999", "-99999999999999999999", strings.Repeat("9", 5000), "-1" + strings.Repeat("0", 5000),
		"1234567890.123456", "1.000000000000000", "0.000000000000000", "0000000000000000.0", "123456789012345.6", "-123456789012345.6", "-0.000000000000000",
		strings.Repeat("1", 300) + "." + strings.Repeat("2", 300),
	}
	for _, s := range texts {
		v, err := num.Read(s)
		refused(t, api.ErrRange, fmt.Sprintf("Read(%q)", s), v, err)
	}
}

// readSlowly is Read as the chapter's words have it, by patterns and ints without an end.
func readSlowly(s string) (api.Value, api.Errno) {
	digits := regexp.MustCompile(`\A(-?)([0-9]+)\z`)
	point := regexp.MustCompile(`\A(-?)([0-9]+)\.([0-9]+)\z`)
	byBits := regexp.MustCompile(`\A0f([0-9a-f]{16})\z`)
	if m := digits.FindStringSubmatch(s); m != nil {
		n, _ := new(big.Int).SetString(m[1]+m[2], 10)
		if !n.IsInt64() {
			return api.Value{}, api.ErrRange
		}
		return integer(n.Int64()), api.OK
	}
	if m := point.FindStringSubmatch(s); m != nil {
		if len(m[2])+len(m[3]) > 15 {
			return api.Value{}, api.ErrRange
		}
		n, _ := new(big.Int).SetString(m[2]+m[3], 10)
		f := float64(n.Int64()) / math.Pow10(len(m[3]))
		if m[1] == "-" {
			return bits(math.Float64bits(f) ^ 1<<63), api.OK
		}
		return float(f), api.OK
	}
	if m := byBits.FindStringSubmatch(s); m != nil {
		n, _ := new(big.Int).SetString(m[1], 16)
		v := bits(n.Uint64())
		if math.IsNaN(asFloat(v)) && v != bits(theNaN) {
			return api.Value{}, api.ErrForm
		}
		return v, api.OK
	}
	return api.Value{}, api.ErrForm
}

func TestP1_5ReadOfShortTexts(t *testing.T) {
	const letters = "01.-f\xff9 "
	var each func(s string, more int)
	each = func(s string, more int) {
		want, wantErr := readSlowly(s)
		if v, err := num.Read(s); v != want || err != wantErr {
			t.Fatalf("Read(%q) = %v, %v; want %v, %v", s, v, err, want, wantErr)
		}
		for i := 0; more > 0 && i < len(letters); i++ {
			each(s+letters[i:i+1], more-1)
		}
	}
	each("", 4)
}

func TestP1_5ReadOfLongTexts(t *testing.T) {
	source := rand.New(rand.NewSource(5))
	for range 20000 {
		digits := make([]byte, 1+source.Intn(21))
		for i := range digits {
			digits[i] = "0123456789"[source.Intn(10)]
		}
		s := string(digits)
		if source.Intn(2) == 0 {
			at := source.Intn(len(s) + 1)
			s = s[:at] + "." + s[at:]
		}
		if source.Intn(2) == 0 {
			s = "-" + s
		}
		want, wantErr := readSlowly(s)
		if v, err := num.Read(s); v != want || err != wantErr {
			t.Fatalf("Read(%q) = %v, %v; want %v, %v", s, v, err, want, wantErr)
		}
	}
}

func readsBack(t *testing.T, v api.Value) {
	t.Helper()
	s := num.Text(v)
	if w, err := num.Read(s); err != api.OK || w != v {
		t.Errorf("Read(%q) = %v, %v; it was the text of %v", s, w, err, v)
	}
}

func TestP1_6OneText(t *testing.T) {
	for _, v := range numbers() {
		readsBack(t, v)
	}
	source := rand.New(rand.NewSource(6))
	for range 20000 {
		n := source.Uint64()
		readsBack(t, integer(int64(n)>>source.Intn(64)))
		readsBack(t, num.Float(math.Float64frombits(n>>source.Intn(64))))
	}
	texts := map[string]api.Value{}
	for _, v := range numbers() {
		if w, there := texts[num.Text(v)]; there && w != v {
			t.Errorf("%v and %v have one text", v, w)
		}
		texts[num.Text(v)] = v
	}
}

func TestExamplesOfTexts(t *testing.T) {
	if s := num.Text(num.Float(1)); s != "0f3ff0000000000000" {
		t.Errorf("Text(Float(1)) = %q", s)
	}
	if v, err := num.Read("1.5"); err != api.OK || v != num.Float(1.5) {
		t.Errorf("Read(1.5) = %v, %v", v, err)
	}
	v, err := num.Read("1.")
	refused(t, api.ErrForm, "Read(1.)", v, err)
	v, err = num.Read("9223372036854775808")
	refused(t, api.ErrRange, "Read(9223372036854775808)", v, err)
}
