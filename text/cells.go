package text

import "heirloom/api"

// perCell is how many bytes a cell has.
const perCell = 8

// cellBytes are a cell's bytes, the lowest first.
type cellBytes [perCell]byte

// Cells is how many cells so many bytes need.
func Cells(n int) int {
	if n < 1 {
		return 0
	}
	return (n-1)/perCell + 1 // n is not added to: it may be the greatest int
}

// Pack is a text as cells.
func Pack(s string) []int64 {
	l := make([]int64, Cells(len(s)))
	for i := range l {
		var b cellBytes
		copy(b[:], s[i*perCell:])
		l[i] = b.join()
	}
	return l
}

// Unpack is the text of cells.
func Unpack(l []int64, n int) (string, api.Errno) {
	if n < 0 || len(l) != Cells(n) {
		return "", api.ErrArg
	}
	all := make([]byte, len(l)*perCell)
	for i, c := range l {
		b := split(c)
		copy(all[i*perCell:], b[:])
	}
	for _, spare := range all[n:] {
		if spare != 0 {
			return "", api.ErrForm
		}
	}
	return string(all[:n]), api.OK
}

// join is the cell of the bytes.
func (b cellBytes) join() int64 {
	var c uint64
	for i := range perCell {
		c |= uint64(b[i]) << (8 * i)
	}
	return int64(c)
}

// split is a cell's bytes.
func split(c int64) cellBytes {
	var b cellBytes
	for i := range perCell {
		b[i] = byte(uint64(c) >> (8 * i))
	}
	return b
}
