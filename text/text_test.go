package text_test

import (
	"hash/fnv"
	"math"
	"math/big"
	"math/rand"
	"testing"

	"heirloom/text"
)

func TestP2_1HashRows(t *testing.T) {
	rows := []struct {
		s    string
		want uint32
	}{
		{"", 2166136261}, {"a", 3826002220}, {"b", 0xe70c2de5}, {"foobar", 0xbf9cf968},
		{"\x00", 0x050c5d1f}, {"\xff", 0x7a0b824e},
	}
	for _, r := range rows {
		if h := text.Hash(r.s); h != r.want {
			t.Errorf("Hash(%q) = %d; want %d", r.s, h, r.want)
		}
	}
}

func TestP2_1Hash(t *testing.T) {
	l := sampleTexts()
	r := rand.New(rand.NewSource(21))
	for n := range 100 {
		l = append(l, someBytes(r, n))
	}
	for c := range 256 {
		l = append(l, string([]byte{byte(c)}))
	}
	for _, s := range l {
		h := fnv.New32a()
		h.Write([]byte(s))
		if got, want := text.Hash(s), h.Sum32(); got != want {
			t.Errorf("Hash(%q) = %d; want %d", s, got, want)
		}
	}
}

// mix is Mix by numbers without bounds.
func mix(t int, n int64) uint32 {
	room := new(big.Int).Lsh(big.NewInt(1), 64)
	x, _ := new(big.Int).SetString("9e3779b97f4a7c15", 16)
	x.Mul(x, big.NewInt(n)).Add(x, big.NewInt(int64(t))).Mod(x, room)
	high := new(big.Int).Rsh(x, 32).Uint64()
	return uint32(high ^ x.Uint64()&0xffffffff)
}

func TestP2_1Mix(t *testing.T) {
	types := []int{0, 1, 2, 3, 4, 5, 10, 11, -1, 255, 1<<32 - 1, 1 << 32, -1 << 32, math.MaxInt, math.MinInt, math.MaxInt - 1, math.MinInt + 1}
	ns := []int64{0, 1, 2, 3, -1, -2, 100, 1 << 31, 1 << 32, 1<<32 + 1, -1 << 32, 1 << 53, math.MaxInt64, math.MinInt64, math.MaxInt64 - 1, math.MinInt64 + 1}
	r := rand.New(rand.NewSource(22))
	for range 50 {
		types = append(types, int(r.Uint64()))
		ns = append(ns, int64(r.Uint64()))
	}
	for _, k := range types {
		for _, n := range ns {
			if got, want := text.Mix(k, n), mix(k, n); got != want {
				t.Errorf("Mix(%d, %d) = %d; want %d", k, n, got, want)
			}
		}
	}
}

func TestP2_1MixRows(t *testing.T) {
	rows := []struct {
		t    int
		n    int64
		want uint32
	}{
		{0, 0, 0},
		{2, 0, 2},
		{-1, 0, 0},
		{0, 1, 0x9e3779b9 ^ 0x7f4a7c15},
		{2, 1, 0x9e3779b9 ^ 0x7f4a7c17},
		{0, -1, 0x61c88646 ^ 0x80b583eb},
		{math.MinInt, 0, 0x80000000},
		{0, math.MinInt64, 0x80000000},
		{math.MinInt, math.MinInt64, 0},
	}
	for _, r := range rows {
		if got := text.Mix(r.t, r.n); got != r.want {
			t.Errorf("Mix(%d, %d) = %x; want %x", r.t, r.n, got, r.want)
		}
	}
}
