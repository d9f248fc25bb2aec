package text

import (
	"strings"

	"heirloom/api"
)

const (
	mark   = '"'
	escape = `\x`
	digits = "0123456789abcdef"
)

// Quote is a text between quotation marks.
func Quote(s string) string {
	q := make([]byte, 0, len(s)+2)
	q = append(q, mark)
	for i := range len(s) {
		q = appendByte(q, s[i])
	}
	return string(append(q, mark))
}

// Unquote is the text of a quote.
func Unquote(s string) (string, api.Errno) {
	if len(s) < 2 || s[0] != mark || s[len(s)-1] != mark {
		return "", api.ErrForm
	}
	rest := s[1 : len(s)-1]
	b := make([]byte, 0, len(rest))
	for rest != "" {
		c, size := firstByte(rest)
		if size == 0 {
			return "", api.ErrForm
		}
		b = append(b, c)
		rest = rest[size:]
	}
	return string(b), api.OK
}

// plain: the byte stands for itself in a quote.
func plain(c byte) bool {
	return c >= 0x20 && c <= 0x7e && c != mark && c != '\\'
}

// appendByte adds a byte as a quote has it.
func appendByte(q []byte, c byte) []byte {
	if plain(c) {
		return append(q, c)
	}
	q = append(q, escape...)
	return append(q, digits[c>>4], digits[c&15])
}

// firstByte is the byte with which the inside of a quote begins, and how many bytes tell it there; none do, if a quote can't begin so.
func firstByte(s string) (c byte, size int) {
	if plain(s[0]) {
		return s[0], 1
	}
	if len(s) < len(escape)+2 || !strings.HasPrefix(s, escape) {
		return 0, 0
	}
	high := strings.IndexByte(digits, s[len(escape)])
	low := strings.IndexByte(digits, s[len(escape)+1])
	if high < 0 || low < 0 {
		return 0, 0
	}
	c = byte(high<<4 | low)
	if plain(c) { // each text has one quote alone
		return 0, 0
	}
	return c, len(escape) + 2
}
