package text_test

import (
	"encoding/binary"
	"math"
	"math/rand"
	"slices"
	"strings"
	"testing"

	"heirloom/api"
	"heirloom/text"
)

func TestP2_2Cells(t *testing.T) {
	rows := []struct{ n, want int }{
		{math.MinInt, 0}, {math.MinInt + 1, 0}, {-9, 0}, {-8, 0}, {-7, 0}, {-1, 0}, {0, 0},
		{1, 1}, {2, 1}, {7, 1}, {8, 1}, {9, 2}, {15, 2}, {16, 2}, {17, 3}, {4096, 512}, {4097, 513},
		{math.MaxInt - 8, math.MaxInt / 8}, {math.MaxInt - 7, math.MaxInt / 8}, {math.MaxInt - 6, math.MaxInt/8 + 1}, {math.MaxInt, math.MaxInt/8 + 1},
	}
	for _, r := range rows {
		if got := text.Cells(r.n); got != r.want {
			t.Errorf("Cells(%d) = %d; want %d", r.n, got, r.want)
		}
	}
	for n := 1; n < 300; n++ {
		if c := text.Cells(n); c*8 < n || (c-1)*8 >= n {
			t.Errorf("Cells(%d) = %d", n, c)
		}
	}
}

// cellsOf is Pack by the library.
func cellsOf(s string) []int64 {
	b := []byte(s)
	for len(b)%8 != 0 {
		b = append(b, 0)
	}
	var l []int64
	for ; len(b) > 0; b = b[8:] {
		l = append(l, int64(binary.LittleEndian.Uint64(b)))
	}
	return l
}

func TestP2_2PackRows(t *testing.T) {
	rows := []struct {
		s    string
		want []int64
	}{
		{"", nil},
		{"ab", []int64{25185}},
		{"a", []int64{0x61}},
		{"\x00", []int64{0}},
		{"abcdefg", []int64{0x67666564636261}},
		{"abcdefgh", []int64{0x6867666564636261}},
		{"abcdefghi", []int64{0x6867666564636261, 0x69}},
		{"\x00\x00\x00\x00\x00\x00\x00\x80", []int64{math.MinInt64}},
		{"\xff\xff\xff\xff\xff\xff\xff\xff\xff", []int64{-1, 255}},
	}
	for _, r := range rows {
		if got := text.Pack(r.s); !slices.Equal(got, r.want) {
			t.Errorf("Pack(%q) = %x; want %x", r.s, got, r.want)
		}
	}
}

func TestP2_2Pack(t *testing.T) {
	for _, s := range sampleTexts() {
		if got, want := text.Pack(s), cellsOf(s); !slices.Equal(got, want) {
			t.Errorf("Pack(%q) = %x; want %x", s, got, want)
		}
		if got := len(text.Pack(s)); got != text.Cells(len(s)) {
			t.Errorf("Pack(%q) has %d cells", s, got)
		}
	}
}

func TestP2_2Unpack(t *testing.T) {
	for _, s := range sampleTexts() {
		if got, err := text.Unpack(cellsOf(s), len(s)); got != s || err != api.OK {
			t.Errorf("Unpack of %q = %q, %v", s, got, err)
		}
	}
	if got, err := text.Unpack([]int64{}, 0); got != "" || err != api.OK {
		t.Errorf("Unpack of no cells = %q, %v", got, err)
	}
	// A byte that is 0 within the n bytes is one of the text's.
	if got, err := text.Unpack([]int64{0x61}, 8); got != "a\x00\x00\x00\x00\x00\x00\x00" || err != api.OK {
		t.Errorf("Unpack of 8 bytes = %q, %v", got, err)
	}
}

func TestP2_2UnpackArgs(t *testing.T) {
	rows := []struct {
		l []int64
		n int
	}{
		{nil, -1}, {nil, -8}, {nil, math.MinInt}, {[]int64{0}, -1}, {[]int64{0}, math.MinInt},
		{[]int64{0}, 0}, {nil, 1}, {nil, 8}, {[]int64{0x61}, 9}, {[]int64{0, 0}, 8}, {[]int64{0, 0}, 17}, {[]int64{0, 0, 0}, 16},
		{[]int64{0x61}, math.MaxInt}, {nil, math.MaxInt},
		{[]int64{-1, -1}, 1}, // ErrArg goes ahead of ErrForm
		{[]int64{-1}, -1},
		{[]int64{-1}, 0},
	}
	for _, r := range rows {
		if got, err := text.Unpack(r.l, r.n); got != "" || err != api.ErrArg {
			t.Errorf("Unpack(%x, %d) = %q, %v", r.l, r.n, got, err)
		}
	}
}

func TestP2_2UnpackSpare(t *testing.T) {
	for n := 1; n <= 24; n++ {
		for spare := n; spare < 8*text.Cells(n); spare++ {
			for _, c := range []byte{1, 0x20, 0x80, 0xff} {
				b := []byte(strings.Repeat("q", n) + strings.Repeat("\x00", 8))
				b[spare] = c
				l := cellsOf(string(b))[:text.Cells(n)]
				if got, err := text.Unpack(l, n); got != "" || err != api.ErrForm {
					t.Errorf("Unpack(%x, %d) = %q, %v", l, n, got, err)
				}
			}
		}
	}
}

func TestP2_2UnpackKeeps(t *testing.T) {
	l := []int64{0x6867666564636261, 0x69}
	if got, err := text.Unpack(l, 9); got != "abcdefghi" || err != api.OK || l[0] != 0x6867666564636261 || l[1] != 0x69 {
		t.Errorf("Unpack = %q, %v, and left %x", got, err, l)
	}
	a, b := text.Pack("abcdefghi"), text.Pack("abcdefghi")
	a[0] = 1
	if !slices.Equal(b, l) || !slices.Equal(text.Pack("abcdefghi"), l) {
		t.Error("two answers of Pack share their cells")
	}
}

func TestP2_4Cells(t *testing.T) {
	r := rand.New(rand.NewSource(24))
	l := sampleTexts()
	for n := range 70 {
		l = append(l, someBytes(r, n))
	}
	for _, s := range l {
		if got, err := text.Unpack(text.Pack(s), len(s)); got != s || err != api.OK {
			t.Errorf("Unpack of Pack(%q) = %q, %v", s, got, err)
		}
	}
}

func TestP2_4UnlikeCells(t *testing.T) {
	// Texts of one length: how many bytes there are is not told by cells.
	for n := 1; n <= 17; n++ {
		base := strings.Repeat("q", n)
		for i := range n {
			for c := range 256 {
				s := base[:i] + string([]byte{byte(c)}) + base[i+1:]
				if alike := slices.Equal(text.Pack(s), text.Pack(base)); alike != (s == base) {
					t.Errorf("Pack(%q), Pack(%q): alike %v", s, base, alike)
				}
			}
		}
	}
}
