package arena_test

import (
	"math"
	"testing"

	"heirloom/api"
)

func TestP3_2Resize(t *testing.T) {
	rows := []struct {
		name    string
		size    int
		lengths []int
		gone    []int
		h, n    int
		at      int // where it lies then
		kept    int // how many cells are as they were
	}{
		{"longer over free cells behind it", 10, []int{3, 3}, nil, 2, 6, 3, 3},
		{"longer to the last cell", 10, []int{3, 3}, nil, 2, 7, 3, 3},
		{"longer over its own cells and those ahead", 10, []int{3, 5, 2}, []int{1}, 2, 8, 0, 5},
		{"one longer, one lower", 7, []int{1, 5, 1}, []int{1}, 2, 6, 0, 5},
		{"longer, over cells on both sides", 10, []int{2, 5, 3}, []int{1}, 2, 7, 0, 5},
		{"all cells", 10, []int{3, 4}, []int{1}, 2, 10, 0, 4},
		{"alone, one longer", 10, []int{9}, nil, 1, 10, 0, 9},
		{"behind another block", 10, []int{2, 3}, nil, 1, 5, 5, 2},
		{"the lowest of two places", 20, []int{4, 1, 3, 1, 6, 1}, []int{1, 5}, 3, 4, 0, 3},
		{"over a place that is one too narrow", 20, []int{4, 1, 3, 1, 6, 1}, []int{1, 5}, 3, 5, 9, 3},
		{"shorter, where it is", 10, []int{3, 4, 3}, nil, 2, 2, 3, 2},
		{"shorter, to a place ahead", 10, []int{2, 4, 4}, []int{1}, 3, 2, 0, 2},
		{"shorter, over its own cells", 10, []int{1, 6, 3}, []int{1}, 2, 5, 0, 5},
		{"to one cell", 10, []int{5, 5}, nil, 2, 1, 5, 1},
		{"the same length, where it is", 10, []int{3, 4, 3}, nil, 2, 4, 3, 4},
		{"the same length, to a place ahead", 10, []int{3, 2, 3}, []int{1}, 3, 3, 0, 3},
		{"the same length, next to where it was", 10, []int{3, 2, 3}, []int{1}, 2, 2, 0, 2},
		{"the same length, over its own cells", 10, []int{1, 6, 3}, []int{1}, 2, 6, 0, 6},
	}
	for _, r := range rows {
		a := newArena(t, r.size, r.lengths...)
		drop(t, a, r.gone...)
		at := map[int]int{}
		for _, h := range a.Handles() {
			at[h] = a.Addr(h)
		}
		if err := a.Resize(r.h, r.n); err != api.OK {
			t.Errorf("%s: Resize(%d, %d) = %v", r.name, r.h, r.n, err)
			continue
		}
		t.Log(r.name)
		expect(t, a, r.h, r.at, numbers(r.h, r.kept, r.n-r.kept))
		for h := range at {
			if h != r.h {
				expect(t, a, h, at[h], numbers(h, r.lengths[h-1], 0))
			}
		}
	}
}

func TestP3_2ResizeRefused(t *testing.T) {
	rows := []struct {
		h, n int
		want api.Errno
	}{
		{2, 1, api.ErrNone}, {0, 1, api.ErrNone}, {-1, 1, api.ErrNone}, {5, 1, api.ErrNone}, {math.MaxInt, 1, api.ErrNone}, {math.MinInt, 1, api.ErrNone},
		{2, 0, api.ErrNone}, {0, api.MaxCells + 1, api.ErrNone}, {2, api.MaxCells, api.ErrNone}, // ErrNone goes ahead of all others
		{1, 0, api.ErrArg}, {1, -1, api.ErrArg}, {1, api.MaxCells + 1, api.ErrArg}, {1, math.MaxInt, api.ErrArg}, {1, math.MinInt, api.ErrArg},
		{1, 6, api.ErrFull}, {3, 7, api.ErrFull}, {4, 5, api.ErrFull}, {1, api.MaxCells, api.ErrFull}, {3, api.MaxCells - 1, api.ErrFull},
	}
	for _, r := range rows {
		a := newArena(t, 10, 2, 3, 3, 2) // at 0, 2, 5, 8; 2 to 4 are free
		drop(t, a, 2)
		was := told(a)
		for range 2 {
			if err := a.Resize(r.h, r.n); err != r.want {
				t.Errorf("Resize(%d, %d) = %v; want %v", r.h, r.n, err, r.want)
			}
			if told(a) != was {
				t.Errorf("Resize(%d, %d) left %s; it was %s", r.h, r.n, told(a), was)
			}
		}
		if h, err := a.Alloc(3); h != 2 || err != api.OK || a.Addr(2) != 2 {
			t.Errorf("Alloc(3) behind Resize(%d, %d) = %d, %v at %d", r.h, r.n, h, err, a.Addr(2))
		}
	}
	a := newArena(t, 10, 2, 3, 3, 2)
	drop(t, a, 2)
	for _, r := range []struct{ h, n int }{{1, 5}, {3, 6}} { // one less than what was refused
		if err := a.Resize(r.h, r.n); err != api.OK {
			t.Errorf("Resize(%d, %d) = %v", r.h, r.n, err)
		}
		a.Resize(1, 2)
	}
}

func TestP3_2ResizeAtTheLimit(t *testing.T) {
	a := newArena(t, api.MaxCells, 1)
	if err := a.Resize(1, api.MaxCells); err != api.OK || a.Len(1) != api.MaxCells || a.Gap() != 0 {
		t.Errorf("Resize to MaxCells = %v: %d", err, a.Len(1))
	}
	a.Store(1, api.MaxCells-1, 7)
	if err := a.Resize(1, api.MaxCells-1); err != api.OK || a.Len(1) != api.MaxCells-1 || a.Gap() != 1 {
		t.Errorf("Resize to MaxCells - 1 = %v: %d", err, a.Len(1))
	}
	if err := a.Resize(1, api.MaxCells); err != api.OK {
		t.Errorf("Resize to MaxCells = %v", err)
	}
	if x, err := a.Load(1, api.MaxCells-1); x != 0 || err != api.OK { // what was cut off is not there any more
		t.Errorf("the last cell is %d, %v", x, err)
	}
	if x, _ := a.Load(1, 0); x != 100 {
		t.Errorf("the first cell is %d", x)
	}
}

func TestP3_10Extend(t *testing.T) {
	rows := []struct {
		name    string
		size    int
		lengths []int
		gone    []int
		h, n    int
		kept    int
		order   []int // how the others lie then, from 0 on
	}{
		{"cells that lie apart", 10, []int{2, 3, 2, 2}, []int{1, 3}, 2, 7, 3, []int{4}},
		{"all that is free, and one", 10, []int{3, 2, 3, 2}, []int{2}, 1, 5, 3, []int{3, 4}},
		{"others over where it lay", 10, []int{4, 3, 3}, nil, 1, 4, 4, []int{2, 3}},
		{"it is the last one", 10, []int{2, 3, 3}, nil, 3, 5, 3, []int{1, 2}},
		{"it is the last one, others move", 10, []int{2, 3, 3}, []int{1}, 3, 7, 3, []int{2}},
		{"it is the one in the middle", 12, []int{2, 3, 4}, nil, 2, 6, 3, []int{1, 3}},
		{"it is alone", 10, []int{4}, nil, 1, 10, 4, nil},
		{"it is alone, and not at 0", 10, []int{3, 4}, []int{1}, 2, 10, 4, nil},
		{"shorter", 10, []int{5, 2, 3}, nil, 1, 2, 2, []int{2, 3}},
		{"to one cell", 10, []int{5, 2, 3}, nil, 2, 1, 1, []int{1, 3}},
		{"the same length", 10, []int{3, 2, 3, 2}, []int{2}, 3, 3, 3, []int{1, 4}},
		{"the same length, all is full", 10, []int{3, 2, 3, 2}, nil, 1, 3, 3, []int{2, 3, 4}},
		{"where there is a place, too", 20, []int{1, 8, 1}, []int{2}, 1, 4, 1, []int{3}},
	}
	for _, r := range rows {
		a := newArena(t, r.size, r.lengths...)
		drop(t, a, r.gone...)
		if err := a.Extend(r.h, r.n); err != api.OK {
			t.Errorf("%s: Extend(%d, %d) = %v", r.name, r.h, r.n, err)
			continue
		}
		t.Log(r.name)
		end := 0
		for _, h := range r.order {
			expect(t, a, h, end, numbers(h, r.lengths[h-1], 0))
			end += r.lengths[h-1]
		}
		expect(t, a, r.h, end, numbers(r.h, r.kept, r.n-r.kept))
		if a.Top() != end+r.n || a.Live() != end+r.n || a.Gap() != r.size-end-r.n {
			t.Errorf("%s: %s", r.name, told(a))
		}
	}
}

// TestP3_10ExtendApart: there is no place for Resize, but the cells are there.
func TestP3_10ExtendApart(t *testing.T) {
	a := newArena(t, 10, 2, 2, 2, 2, 2)
	drop(t, a, 1, 3)
	if err := a.Resize(4, 6); err != api.ErrFull {
		t.Fatalf("Resize(4, 6) = %v", err)
	}
	if err := a.Extend(4, 6); err != api.OK {
		t.Fatalf("Extend(4, 6) = %v", err)
	}
	expect(t, a, 2, 0, numbers(2, 2, 0))
	expect(t, a, 5, 2, numbers(5, 2, 0))
	expect(t, a, 4, 4, numbers(4, 2, 4))
	if err := a.Extend(4, 7); err != api.ErrFull {
		t.Errorf("Extend(4, 7) = %v", err)
	}
	if h, err := a.Alloc(1); h != 0 || err != api.ErrFull {
		t.Errorf("Alloc(1) of a full arena = %d, %v", h, err)
	}
	drop(t, a, 2)
	if h, err := a.Alloc(2); h != 1 || err != api.OK || a.Addr(1) != 0 {
		t.Errorf("Alloc(2) = %d, %v at %d", h, err, a.Addr(1))
	}
}

func TestP3_10ExtendRefused(t *testing.T) {
	rows := []struct {
		h, n int
		want api.Errno
	}{
		{2, 1, api.ErrNone}, {0, 1, api.ErrNone}, {-1, 1, api.ErrNone}, {5, 1, api.ErrNone}, {math.MaxInt, 1, api.ErrNone}, {math.MinInt, 1, api.ErrNone},
		{2, 0, api.ErrNone}, {0, api.MaxCells + 1, api.ErrNone}, {2, api.MaxCells, api.ErrNone},
		{1, 0, api.ErrArg}, {3, -1, api.ErrArg}, {1, api.MaxCells + 1, api.ErrArg}, {1, math.MaxInt, api.ErrArg}, {1, math.MinInt, api.ErrArg},
		{1, 6, api.ErrFull}, {3, 7, api.ErrFull}, {4, 6, api.ErrFull}, {1, api.MaxCells, api.ErrFull}, {1, api.MaxCells - 1, api.ErrFull},
	}
	for _, r := range rows {
		a := newArena(t, 10, 2, 3, 3, 2)
		drop(t, a, 2)
		was := told(a)
		if err := a.Extend(r.h, r.n); err != r.want {
			t.Errorf("Extend(%d, %d) = %v; want %v", r.h, r.n, err, r.want)
		}
		if told(a) != was {
			t.Errorf("Extend(%d, %d) left %s; it was %s", r.h, r.n, told(a), was)
		}
		if r.want == api.ErrFull && r.n < 10 { // with one less the arena is full
			if err := a.Extend(r.h, r.n-1); err != api.OK || a.Gap() != 0 {
				t.Errorf("Extend(%d, %d) = %v: %s", r.h, r.n-1, err, told(a))
			}
		}
	}
}

func TestP3_10ExtendAtTheLimit(t *testing.T) {
	a := newArena(t, api.MaxCells, 1, 1)
	if err := a.Extend(1, api.MaxCells); err != api.ErrFull || a.Addr(1) != 0 {
		t.Errorf("Extend to MaxCells = %v", err)
	}
	if err := a.Extend(1, api.MaxCells-1); err != api.OK || a.Len(1) != api.MaxCells-1 || a.Addr(1) != 1 || a.Gap() != 0 {
		t.Errorf("Extend to MaxCells - 1 = %v: %d", err, a.Len(1))
	}
	drop(t, a, 2)
	if err := a.Extend(1, api.MaxCells); err != api.OK || a.Len(1) != api.MaxCells || a.Addr(1) != 0 || a.Gap() != 0 {
		t.Errorf("Extend to MaxCells = %v: %d", err, a.Len(1))
	}
	if x, _ := a.Load(1, 0); x != 100 {
		t.Errorf("the first cell is %d", x)
	}
}
