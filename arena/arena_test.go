package arena_test

import (
	"math"
	"slices"
	"testing"

	"heirloom/api"
	"heirloom/arena"
)

// wrongLengths are those that neither an arena nor a block may have.
var wrongLengths = []int{0, -1, -2, math.MinInt, api.MaxCells + 1, api.MaxCells + 2, math.MaxInt}

// TestP3_1Example is the chapter's.
func TestP3_1Example(t *testing.T) {
	a := newArena(t, 10, 3, 3, 3)
	drop(t, a, 2)
	if h, err := a.Alloc(2); h != 2 || err != api.OK || a.Addr(2) != 3 {
		t.Fatalf("Alloc(2) = %d, %v at %d", h, err, a.Addr(2))
	}
	if h, err := a.Alloc(2); h != 0 || err != api.ErrFull {
		t.Fatalf("Alloc(2) = %d, %v", h, err)
	}
	expect(t, a, 3, 6, numbers(3, 3, 0))
	if n := a.Compact(); n != 1 {
		t.Fatalf("Compact = %d", n)
	}
	expect(t, a, 3, 5, numbers(3, 3, 0))
	if h, err := a.Alloc(2); h != 4 || err != api.OK || a.Addr(4) != 8 {
		t.Fatalf("Alloc(2) = %d, %v at %d", h, err, a.Addr(4))
	}
}

func TestP3_1New(t *testing.T) {
	for _, n := range wrongLengths {
		if a, err := arena.New(n); a != nil || err != api.ErrArg {
			t.Errorf("New(%d) = %v, %v", n, a, err)
		}
	}
	for _, n := range []int{1, 2, 10, api.MaxCells - 1, api.MaxCells} {
		a, err := arena.New(n)
		if a == nil || err != api.OK {
			t.Errorf("New(%d) = %v, %v", n, a, err)
			continue
		}
		if a.Size() != n || a.Live() != 0 || a.Top() != 0 || a.Gap() != n || len(a.Handles()) != 0 {
			t.Errorf("New(%d): %s", n, told(a))
		}
	}
	a, b := newArena(t, 4, 1), newArena(t, 4, 1)
	a.Store(1, 0, 5)
	a.Alloc(1)
	expect(t, b, 1, 0, numbers(1, 1, 0))
	if b.Live() != 1 {
		t.Errorf("an arena has what was made in another: %s", told(b))
	}
}

func TestP3_1AllocArgs(t *testing.T) {
	a := newArena(t, 3, 3) // full: ErrArg goes ahead of ErrFull
	was := told(a)
	for _, n := range wrongLengths {
		if h, err := a.Alloc(n); h != 0 || err != api.ErrArg {
			t.Errorf("Alloc(%d) = %d, %v", n, h, err)
		}
	}
	for _, n := range []int{1, 2, 3, 4, api.MaxCells - 1, api.MaxCells} {
		if h, err := a.Alloc(n); h != 0 || err != api.ErrFull {
			t.Errorf("Alloc(%d) = %d, %v", n, h, err)
		}
	}
	if told(a) != was {
		t.Errorf("refused calls left %s; it was %s", told(a), was)
	}
}

func TestP3_1AllocSizes(t *testing.T) {
	for _, size := range []int{1, 2, 7, api.MaxCells - 1, api.MaxCells} {
		a := newArena(t, size)
		want := api.ErrFull
		if size == api.MaxCells {
			want = api.ErrArg
		}
		if h, err := a.Alloc(size + 1); h != 0 || err != want {
			t.Errorf("size %d: Alloc of one more = %d, %v", size, h, err)
		}
		if h, err := a.Alloc(size); h != 1 || err != api.OK || a.Len(1) != size || a.Addr(1) != 0 {
			t.Errorf("size %d: Alloc of all = %d, %v", size, h, err)
		}
		if h, err := a.Alloc(1); h != 0 || err != api.ErrFull {
			t.Errorf("size %d: Alloc(1) of a full arena = %d, %v", size, h, err)
		}
	}
}

func TestP3_1AllocPlace(t *testing.T) {
	rows := []struct{ n, at int }{
		{1, 2}, // the lowest one, not the one that fits best
		{2, 2},
		{3, 5}, // just wide enough; the one at 2 is too narrow
		{4, 9},
		{5, -1}, // 9 are free, but apart
	}
	for _, r := range rows {
		a := newArena(t, 15, 2, 2, 1, 3, 1, 4, 1, 1) // at 0, 2, 4, 5, 8, 9, 13, 14
		drop(t, a, 6, 2, 4)
		h, err := a.Alloc(r.n)
		switch {
		case r.at < 0 && (h != 0 || err != api.ErrFull):
			t.Errorf("Alloc(%d) = %d, %v", r.n, h, err)
		case r.at >= 0 && (h != 2 || err != api.OK || a.Addr(2) != r.at || a.Len(2) != r.n):
			t.Errorf("Alloc(%d) = %d, %v at %d; want 2 at %d", r.n, h, err, a.Addr(h), r.at)
		}
	}
	a := newArena(t, 8, 2, 3, 1, 2)
	drop(t, a, 1, 4) // the first cells of all, and the last ones
	for _, at := range []int{0, 6} {
		if h, err := a.Alloc(2); err != api.OK || a.Addr(h) != at {
			t.Errorf("Alloc(2) = %d, %v at %d; want at %d", h, err, a.Addr(h), at)
		}
	}
	a = newArena(t, 8, 1, 2, 3, 2)
	drop(t, a, 2, 3) // what they leave is one place
	if h, err := a.Alloc(5); h != 2 || err != api.OK || a.Addr(2) != 1 {
		t.Errorf("Alloc(5) = %d, %v at %d", h, err, a.Addr(2))
	}
}

func TestP3_1AllocHandles(t *testing.T) {
	a := newArena(t, 10, 1, 1, 1, 1, 1, 1)
	drop(t, a, 5, 2, 4)
	for _, want := range []int{2, 4, 5, 7, 8} {
		if h, err := a.Alloc(1); h != want || err != api.OK {
			t.Errorf("Alloc(1) = %d, %v; want %d", h, err, want)
		}
	}
	drop(t, a, 8)
	if h, _ := a.Alloc(1); h != 8 {
		t.Errorf("Alloc(1) = %d; want 8", h)
	}
	drop(t, a, 1, 2, 3, 4, 5, 6, 7, 8)
	if h, _ := a.Alloc(1); h != 1 {
		t.Errorf("Alloc(1) = %d; want 1", h)
	}
}

func TestP3_1AllocZero(t *testing.T) {
	a := newArena(t, 6, 2, 4)
	drop(t, a, 1, 2)
	a.Alloc(5)
	expect(t, a, 1, 0, make([]int64, 5))
	a = newArena(t, 6, 3, 3)
	drop(t, a, 1)
	a.Compact() // what lay above lies lower now
	a.Alloc(3)
	expect(t, a, 1, 3, make([]int64, 3))
	a = newArena(t, 6, 6)
	a.Resize(1, 2)
	a.Alloc(4)
	expect(t, a, 2, 2, make([]int64, 4))
	expect(t, a, 1, 0, numbers(1, 2, 0))
}

func TestP3_1AllocToTheLastCell(t *testing.T) {
	a := newArena(t, api.MaxCells)
	for i := range api.MaxCells {
		if h, err := a.Alloc(1); h != i+1 || err != api.OK || a.Addr(h) != i {
			t.Fatalf("Alloc %d = %d, %v at %d", i, h, err, a.Addr(h))
		}
	}
	if h, err := a.Alloc(1); h != 0 || err != api.ErrFull {
		t.Fatalf("Alloc of a full arena = %d, %v", h, err)
	}
	if a.Live() != api.MaxCells || a.Top() != api.MaxCells || a.Gap() != 0 || len(a.Handles()) != api.MaxCells {
		t.Errorf("Live, Top, Gap = %d, %d, %d", a.Live(), a.Top(), a.Gap())
	}
	for _, want := range []int{api.MaxCells, 1, api.MaxCells / 2} {
		drop(t, a, want)
		if h, err := a.Alloc(1); h != want || err != api.OK || a.Addr(h) != want-1 {
			t.Errorf("Alloc = %d, %v at %d; want %d", h, err, a.Addr(h), want)
		}
	}
}

func TestP3_1Free(t *testing.T) {
	a := newArena(t, 10, 2, 3, 4)
	was := told(a)
	for _, h := range []int{0, -1, 4, 5, math.MinInt, math.MaxInt} {
		if err := a.Free(h); err != api.ErrNone {
			t.Errorf("Free(%d) = %v", h, err)
		}
	}
	if told(a) != was {
		t.Errorf("refused calls left %s; it was %s", told(a), was)
	}
	drop(t, a, 2)
	if a.Len(2) != 0 || a.Addr(2) != -1 || a.Live() != 6 || a.Gap() != 3 || !slices.Equal(a.Handles(), []int{1, 3}) {
		t.Errorf("Free(2) left %s", told(a))
	}
	if err := a.Free(2); err != api.ErrNone {
		t.Errorf("Free(2) once more = %v", err)
	}
	expect(t, a, 1, 0, numbers(1, 2, 0))
	expect(t, a, 3, 5, numbers(3, 4, 0))
	drop(t, a, 3, 1)
	if a.Live() != 0 || a.Top() != 0 || a.Gap() != 10 || len(a.Handles()) != 0 {
		t.Errorf("Free of all left %s", told(a))
	}
}

func TestP3_3LoadStore(t *testing.T) {
	a := newArena(t, 9, 3, 1, 5)
	for _, x := range []int64{0, 1, -1, math.MaxInt64, math.MinInt64} {
		for _, i := range []int{0, 2, 4} {
			if err := a.Store(3, i, x); err != api.OK {
				t.Errorf("Store(3, %d, %d) = %v", i, x, err)
			}
			if got, err := a.Load(3, i); got != x || err != api.OK {
				t.Errorf("Load(3, %d) = %d, %v; want %d", i, got, err, x)
			}
		}
	}
	if l := cellsOf(a, 3); l[1] != 301 || l[3] != 303 {
		t.Errorf("cells beside those stored are %v", l)
	}
	expect(t, a, 1, 0, numbers(1, 3, 0))
	expect(t, a, 2, 3, numbers(2, 1, 0))
}

func TestP3_3Refused(t *testing.T) {
	a := newArena(t, 9, 3, 1, 4)
	drop(t, a, 2)
	was := told(a)
	rows := []struct {
		h, i int
		want api.Errno
	}{
		{1, -1, api.ErrArg}, {1, 3, api.ErrArg}, {1, 4, api.ErrArg}, {3, 4, api.ErrArg}, {3, -1, api.ErrArg}, {3, -4, api.ErrArg},
		{1, math.MinInt, api.ErrArg}, {1, math.MaxInt, api.ErrArg}, {3, math.MaxInt, api.ErrArg}, {3, math.MaxInt - 3, api.ErrArg},
		{2, 0, api.ErrNone}, {0, 0, api.ErrNone}, {-1, 0, api.ErrNone}, {4, 0, api.ErrNone},
		{2, -1, api.ErrNone}, {0, 9, api.ErrNone}, {math.MaxInt, math.MaxInt, api.ErrNone}, {math.MinInt, -1, api.ErrNone}, // ErrNone goes ahead of ErrArg
	}
	for _, r := range rows {
		if x, err := a.Load(r.h, r.i); x != 0 || err != r.want {
			t.Errorf("Load(%d, %d) = %d, %v; want %v", r.h, r.i, x, err, r.want)
		}
		if err := a.Store(r.h, r.i, 7); err != r.want {
			t.Errorf("Store(%d, %d, 7) = %v; want %v", r.h, r.i, err, r.want)
		}
	}
	if told(a) != was {
		t.Errorf("refused calls left %s; it was %s", told(a), was)
	}
}

func TestP3_4Compact(t *testing.T) {
	a := newArena(t, 20, 2, 3, 1, 4, 2, 5) // at 0, 2, 5, 6, 10, 12
	drop(t, a, 2, 5)
	a.Alloc(1) // 2, at 2: blocks lie otherwise than their handles
	a.Alloc(3) // 5, at 17
	a.Store(2, 0, 9)
	if n := a.Compact(); n != 4 {
		t.Errorf("Compact = %d; want 4", n)
	}
	expect(t, a, 1, 0, numbers(1, 2, 0))
	expect(t, a, 2, 2, []int64{9})
	expect(t, a, 3, 3, numbers(3, 1, 0))
	expect(t, a, 4, 4, numbers(4, 4, 0))
	expect(t, a, 6, 8, numbers(6, 5, 0))
	expect(t, a, 5, 13, make([]int64, 3))
	if n := a.Compact(); n != 0 {
		t.Errorf("Compact once more = %d", n)
	}
}

func TestP3_4CompactEdges(t *testing.T) {
	a := newArena(t, 5)
	if n := a.Compact(); n != 0 || a.Top() != 0 || a.Gap() != 5 {
		t.Errorf("Compact of no blocks = %d: %s", n, told(a))
	}
	a = newArena(t, 5, 1, 4)
	drop(t, a, 1) // each of its cells comes to lie on one of its own
	if n := a.Compact(); n != 1 {
		t.Errorf("Compact = %d", n)
	}
	expect(t, a, 2, 0, numbers(2, 4, 0))
	a = newArena(t, 6, 1, 1, 1, 1, 1, 1)
	drop(t, a, 1)
	if n := a.Compact(); n != 5 {
		t.Errorf("Compact = %d; want 5", n)
	}
	for h := 2; h <= 6; h++ {
		expect(t, a, h, h-2, numbers(h, 1, 0))
	}
	a = newArena(t, 6, 6)
	if n := a.Compact(); n != 0 {
		t.Errorf("Compact of a full arena = %d", n)
	}
	expect(t, a, 1, 0, numbers(1, 6, 0))
}

func TestP3_5Looks(t *testing.T) {
	a := newArena(t, 12, 2, 3, 1, 4)
	drop(t, a, 2)
	for _, h := range []int{2, 0, -1, 5, math.MinInt, math.MaxInt} {
		if a.Len(h) != 0 || a.Addr(h) != -1 {
			t.Errorf("block %d: Len, Addr = %d, %d", h, a.Len(h), a.Addr(h))
		}
	}
	rows := []struct{ h, at, n int }{{1, 0, 2}, {3, 5, 1}, {4, 6, 4}}
	for _, r := range rows {
		if a.Addr(r.h) != r.at || a.Len(r.h) != r.n {
			t.Errorf("block %d: Addr, Len = %d, %d; want %d, %d", r.h, a.Addr(r.h), a.Len(r.h), r.at, r.n)
		}
	}
	if a.Size() != 12 || a.Live() != 7 || a.Top() != 10 || a.Gap() != 3 || !slices.Equal(a.Handles(), []int{1, 3, 4}) {
		t.Errorf("%s", told(a))
	}
	drop(t, a, 4) // the free cells behind the last block are a gap, too
	if a.Live() != 3 || a.Top() != 6 || a.Gap() != 6 {
		t.Errorf("%s", told(a))
	}
	drop(t, a, 1)
	if a.Live() != 1 || a.Top() != 6 || a.Gap() != 6 {
		t.Errorf("%s", told(a))
	}
}

func TestP3_5HandlesRise(t *testing.T) {
	a := newArena(t, 40, 1, 2, 3, 4, 5, 6, 7)
	a.Extend(1, 1)
	a.Extend(3, 3)
	drop(t, a, 5)
	l := a.Handles()
	if !slices.Equal(l, []int{1, 2, 3, 4, 6, 7}) {
		t.Errorf("Handles = %v", l)
	}
	l[0] = 9 // the list is the caller's own
	if !slices.Equal(a.Handles(), []int{1, 2, 3, 4, 6, 7}) {
		t.Errorf("Handles = %v behind a change of an answer", a.Handles())
	}
}

// TestP1Nil: of arenas that New did not make nothing is told, whatever the arguments are.
func TestP1Nil(t *testing.T) {
	for _, a := range []*arena.Arena{nil, {}} {
		for _, h := range []int{0, 1, -1, math.MaxInt} {
			for _, n := range append(slices.Clone(wrongLengths), 1, 2, api.MaxCells) {
				if g, err := a.Alloc(n); g != 0 || err != api.ErrNil {
					t.Errorf("Alloc(%d) = %d, %v", n, g, err)
				}
				if x, err := a.Load(h, n); x != 0 || err != api.ErrNil {
					t.Errorf("Load(%d, %d) = %d, %v", h, n, x, err)
				}
				for _, err := range []api.Errno{a.Free(h), a.Resize(h, n), a.Extend(h, n), a.Store(h, n, 1)} {
					if err != api.ErrNil {
						t.Errorf("a call with %d, %d = %v", h, n, err)
					}
				}
			}
			if a.Len(h) != 0 || a.Addr(h) != -1 {
				t.Errorf("Len, Addr = %d, %d", a.Len(h), a.Addr(h))
			}
		}
		if a.Compact() != 0 || a.Size() != 0 || a.Live() != 0 || a.Top() != 0 || a.Gap() != 0 || len(a.Handles()) != 0 {
			t.Error("an arena that nothing made has something")
		}
	}
}
