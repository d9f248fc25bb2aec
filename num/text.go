package num

import (
	"strconv"
	"strings"

	"heirloom/api"
)

const (
	decimal     = "0123456789"
	hexadecimal = "0123456789abcdef"

	bitsMark = "0f" // stands ahead of a float's bits
	bitsLong = 16   // hexadecimal digits of 64 bits

	// What so many digits say is exact as a float64, and so is the power of ten: the one division alone rounds.
	mostPointedDigits = 15
)

// Text is a number as a text.
func Text(v api.Value) string {
	switch {
	case !Is(v):
		return ""
	case v.T == api.TInt:
		return strconv.FormatInt(v.N, 10)
	}
	digits := strconv.FormatUint(uint64(v.N), 16)
	return bitsMark + strings.Repeat("0", bitsLong-len(digits)) + digits
}

// Read is the number that a text says.
func Read(s string) (api.Value, api.Errno) {
	if digits, is := strings.CutPrefix(s, bitsMark); is {
		return readBits(digits)
	}
	unsigned, negative := strings.CutPrefix(s, "-")
	ahead, behind, point := strings.Cut(unsigned, ".")
	switch {
	case !allOf(ahead, decimal) || point && !allOf(behind, decimal):
		return api.Value{}, api.ErrForm
	case !point:
		return readInt(s)
	}
	v, err := readPointed(ahead, behind)
	if err == api.OK && negative {
		return Neg(v)
	}
	return v, err
}

// allOf tells whether a text is one or more digits of a kind, and nothing else.
func allOf(s, digits string) bool {
	for i := range len(s) {
		if strings.IndexByte(digits, s[i]) < 0 {
			return false
		}
	}
	return s != ""
}

// readBits reads what stands behind the mark.
func readBits(digits string) (api.Value, api.Errno) {
	if len(digits) != bitsLong || !allOf(digits, hexadecimal) {
		return api.Value{}, api.ErrForm
	}
	bits, _ := strconv.ParseUint(digits, 16, 64) // sixteen such digits always fit
	v := ofBits(bits)
	if !Is(v) {
		return api.Value{}, api.ErrForm
	}
	return v, api.OK
}

// readInt reads digits, perhaps with a - ahead: it takes the - along, since -2^63 is an int and 2^63 is none.
func readInt(s string) (api.Value, api.Errno) {
	n, err := strconv.ParseInt(s, 10, 64)
	if err != nil {
		return api.Value{}, api.ErrRange
	}
	return Int(n), api.OK
}

// readPointed reads the digits ahead of a point and behind it.
func readPointed(ahead, behind string) (api.Value, api.Errno) {
	if len(ahead)+len(behind) > mostPointedDigits {
		return api.Value{}, api.ErrRange
	}
	all, _ := strconv.ParseInt(ahead+behind, 10, 64) // so few digits always fit
	power := 1.0
	for range len(behind) {
		power *= 10
	}
	return Float(float64(all) / power), api.OK
}
