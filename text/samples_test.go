package text_test

import (
	"math/rand"
	"strings"
)

// everyByte has each of the 256 bytes once, in order.
func everyByte() string {
	b := make([]byte, 256)
	for i := range b {
		b[i] = byte(i)
	}
	return string(b)
}

// sampleTexts are texts of many kinds, no two alike.
func sampleTexts() []string {
	l := []string{
		"", "a", "b", "ab", "ba", "abc", "\"", "\\", "\\x", "\\x22", "a\"", "\"\"", "x", "\\\\", "22",
		"\x00", "\x00\x00", "a\x00", "\x00a", "\x7f", "\x80", "\xff", "\xff\xff\xff\xff\xff\xff\xff\xff",
		"\n", "\r\n", "\t", " ", "~", "é", "日本", "\xc3", "hello, world", everyByte(),
	}
	for n := 3; n <= 41; n++ {
		l = append(l, strings.Repeat("q", n), strings.Repeat("\x00", n), strings.Repeat("\xfe", n))
	}
	for _, n := range []int{4095, 4096, 4097} {
		l = append(l, strings.Repeat("0123456789", n)[:n])
	}
	return l
}

// someBytes is a text of n bytes, the same in each run.
func someBytes(r *rand.Rand, n int) string {
	b := make([]byte, n)
	for i := range b {
		b[i] = byte(r.Intn(256))
	}
	return string(b)
}
