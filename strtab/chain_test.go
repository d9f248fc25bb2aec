package strtab_test

import (
	"math"
	"testing"

	"heirloom/strtab"
)

// TestP5_3WhichBucket: hashes as the chapter of texts has them, by their last two bits.
func TestP5_3WhichBucket(t *testing.T) {
	rows := []struct {
		s    string
		hash uint32
	}{
		{"", 2166136261}, {"a", 3826002220}, {"b", 3876335077}, {"c", 3859557458}, {"foobar", 0xbf9cf968},
	}
	for _, r := range rows {
		tab := newTable(t, r.s)
		for b := range 4 {
			if uint32(b) == r.hash%4 {
				expectChain(t, tab, b, 10)
			} else {
				expectChain(t, tab, b)
			}
		}
	}
	tab := newTable(t, "a", "b", "c", "foobar", "") // 8 buckets: by their last three bits
	expectChain(t, tab, 4, 10)
	expectChain(t, tab, 5, 50, 20)
	expectChain(t, tab, 2, 30)
	expectChain(t, tab, 0, 40)
}

// TestP5_3WrongBucket: a bucket's number below 0, the last one and those beside it.
func TestP5_3WrongBucket(t *testing.T) {
	for _, n := range []int{4, 8, 64} {
		tab := strtab.New()
		for i, s := range textsIn(n-1, n, n) { // all in the last one
			put(t, tab, s, i+1)
		}
		if l := tab.Chain(n - 1); tab.Buckets() != n || len(l) != n || l[0] != n {
			t.Errorf("Chain(%d) of %d = %v", n-1, tab.Buckets(), l)
		}
		for _, b := range []int{n, n + 1, 2*n - 1, -1, -2, -n, math.MinInt, math.MaxInt, n - 2, 0} {
			expectChain(t, tab, b)
		}
	}
}

// TestP5_3LastFirst: in one bucket, the one that was put last stands first, whatever the texts and handles are.
func TestP5_3LastFirst(t *testing.T) {
	texts := textsIn(1, 4, 4)
	for _, handles := range [][4]int{{1, 2, 3, 4}, {4, 3, 2, 1}, {2, 4, 1, 3}, {math.MaxInt, 1, 70000, 2}} {
		tab := strtab.New()
		for i, s := range texts {
			put(t, tab, s, handles[i])
		}
		expectChain(t, tab, 1, handles[3], handles[2], handles[1], handles[0])
		drop(t, tab, handles[1])
		expectChain(t, tab, 1, handles[3], handles[2], handles[0])
		put(t, tab, texts[1], handles[1]) // put again, it is the last one
		expectChain(t, tab, 1, handles[1], handles[3], handles[2], handles[0])
		drop(t, tab, handles[1])
		drop(t, tab, handles[0])
		expectChain(t, tab, 1, handles[3], handles[2])
	}
}

// TestP5_3OrderWhenMore: when there are twice as many buckets, each chain keeps its order, and what is put then stands first.
func TestP5_3OrderWhenMore(t *testing.T) {
	low, high := textsIn(2, 8, 4), textsIn(6, 8, 3) // all in the bucket 2 of 4
	tab := newTable(t, low[0], high[0], low[1], high[1])
	expectChain(t, tab, 2, 40, 30, 20, 10)
	put(t, tab, low[2], 50)
	expectChain(t, tab, 2, 50, 30, 10)
	expectChain(t, tab, 6, 40, 20)
	put(t, tab, high[2], 60)
	put(t, tab, low[3], 5)
	expectChain(t, tab, 2, 5, 50, 30, 10)
	expectChain(t, tab, 6, 60, 40, 20)
}

// TestP5_3OrderWhenFewer: when there are half as many buckets, two chains become one, in the order in which their texts were put.
func TestP5_3OrderWhenFewer(t *testing.T) {
	low, high := textsIn(3, 16, 5), textsIn(11, 16, 4) // all in the bucket 3 of 8
	tab := newTable(t, low[0], high[0], low[1], high[1], low[2], high[2], low[3], high[3], low[4])
	expectChain(t, tab, 3, 90, 70, 50, 30, 10)
	expectChain(t, tab, 11, 80, 60, 40, 20)
	drop(t, tab, 10, 50, 90, 60, 80)
	expectChain(t, tab, 3, 70, 30)
	expectChain(t, tab, 11, 40, 20)
	drop(t, tab, 40)
	expectChain(t, tab, 3, 70, 30, 20)
	put(t, tab, high[1], 1)
	expectChain(t, tab, 3, 1, 70, 30, 20)
	drop(t, tab, 70)
	drop(t, tab, 20)
	drop(t, tab, 30)
	expectChain(t, tab, 3, 1)
	if tab.Buckets() != 4 {
		t.Errorf("Buckets = %d", tab.Buckets())
	}
}

// TestP5_3OrderByPutsNotHandles: an order that handles and texts do not tell, through renewals to and fro.
func TestP5_3OrderByPutsNotHandles(t *testing.T) {
	texts := textsIn(0, 64, 17)
	tab := strtab.New()
	var want []int // the last one first
	for i, s := range texts {
		h := 1 + i*7%17
		put(t, tab, s, h)
		want = append([]int{h}, want...)
		expectChain(t, tab, 0, want...)
	}
	for len(want) > 0 {
		i := len(want) * 5 / 8
		drop(t, tab, want[i])
		want = append(want[:i:i], want[i+1:]...)
		expectChain(t, tab, 0, want...)
	}
}
