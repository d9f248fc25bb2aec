package arena_test

import (
	"fmt"
	"math/rand"
	"testing"

	"heirloom/api"
	"heirloom/arena"
)

// TestP3AllLayouts: from each way in which blocks can lie in a small arena each call is as the model's.
func TestP3AllLayouts(t *testing.T) {
	const size = 5
	var ops []op
	for n := range size + 2 {
		ops = append(ops, op{'a', 0, n})
		for h := 1; h <= 4; h++ {
			ops = append(ops, op{'r', h, n}, op{'e', h, n})
		}
	}
	for h := range size + 2 {
		ops = append(ops, op{'f', h, 0})
	}
	ops = append(ops, op{'c', 0, 0})
	seen := map[string]int{}
	paths := [][]op{nil}
	for len(paths) > 0 {
		path := paths[0]
		paths = paths[1:]
		for _, o := range ops {
			longer := append(path[:len(path):len(path)], o)
			key := walk(t, size, longer)
			if t.Failed() {
				return
			}
			if seen[key]++; seen[key] == 1 {
				paths = append(paths, longer)
			}
		}
	}
	if len(seen) < 500 {
		t.Errorf("%d layouts were met", len(seen))
	}
}

// walk makes calls of a new arena, holds it against the model behind each, and tells how the blocks lie in the end.
func walk(t *testing.T, size int, path []op) string {
	t.Helper()
	a, m := newArena(t, size), newModel(size)
	last := int64(0)
	for _, o := range path {
		last = fill(a, m, last)
		if got, want := o.do(a, m); got != want {
			t.Errorf("%v: the last call = %v; want %v", path, got, want)
		}
	}
	if d := differs(a, m); d != "" {
		t.Errorf("%v: %s", path, d)
	}
	return fmt.Sprint(m.owner)
}

// someOp is a call, most often one that is not refused.
func someOp(r *rand.Rand, m *model, wide int) op {
	o := op{kind: "aaaaaaffffrrrrrec"[r.Intn(17)], h: 1 + r.Intn(len(m.owner)), n: 1 + r.Intn(wide)}
	if l := m.byAddress(); len(l) > 0 && r.Intn(20) != 0 {
		o.h = l[r.Intn(len(l))]
	}
	switch r.Intn(60) {
	case 0:
		o.n = 0
	case 1:
		o.n = len(m.owner)
	case 2:
		o.n = len(m.owner) + 1
	case 3:
		o.n = m.gap()
	case 4:
		o.n = m.gap() + 1
	}
	return o
}

// TestP3ManyCalls: long runs of calls are as the model's.
func TestP3ManyCalls(t *testing.T) {
	r := rand.New(rand.NewSource(33))
	for run := range 120 {
		size := 1 + r.Intn(90)
		wide := 1 + r.Intn(1+min(size, 12))
		a, m := newArena(t, size), newModel(size)
		last := int64(0)
		for i := range 250 {
			o := someOp(r, m, wide)
			if got, want := o.do(a, m); got != want {
				t.Fatalf("run %d, call %d, %v = %v; want %v", run, i, o, got, want)
			}
			if d := differs(a, m); d != "" {
				t.Fatalf("run %d, call %d, %v: %s", run, i, o, d)
			}
			last = fill(a, m, last)
		}
	}
}

// eachStep makes many calls of an arena, and has it looked at behind each of them; it is told nothing by the model but which calls to make.
func eachStep(t *testing.T, seed int64, look func(a *arena.Arena, o op, answer api.Errno)) {
	t.Helper()
	r := rand.New(rand.NewSource(seed))
	for range 30 {
		size := 1 + r.Intn(60)
		a, m := newArena(t, size), newModel(size)
		for range 200 {
			o := someOp(r, m, 1+size/4)
			got, _ := o.do(a, m)
			answer := api.Errno(got[0])
			if o.kind == 'a' {
				answer = api.Errno(got[1])
			}
			look(a, o, answer)
			if t.Failed() {
				return
			}
		}
	}
}

func TestP3_6Apart(t *testing.T) {
	eachStep(t, 36, func(a *arena.Arena, o op, _ api.Errno) {
		whose := make([]int, a.Size())
		for _, h := range a.Handles() {
			if a.Len(h) < 1 || a.Addr(h) < 0 || a.Addr(h)+a.Len(h) > a.Size() {
				t.Fatalf("%v: block %d lies outside: %s", o, h, told(a))
			}
			for i := range a.Len(h) {
				if at := a.Addr(h) + i; whose[at] != 0 {
					t.Fatalf("%v: cell %d is of %d and of %d", o, at, whose[at], h)
				} else {
					whose[at] = h
				}
			}
		}
	})
}

func TestP3_7Kept(t *testing.T) {
	next := int64(0)
	var of *arena.Arena
	var stored map[int][]int64
	eachStep(t, 37, func(a *arena.Arena, o op, answer api.Errno) {
		if a != of {
			of, stored = a, map[int][]int64{}
		}
		if o.kind == 'f' && answer == api.OK {
			delete(stored, o.h)
		}
		for _, h := range a.Handles() {
			for i, x := range cellsOf(a, h) {
				want := int64(0) // a cell that is new
				if i < len(stored[h]) {
					want = stored[h][i]
				}
				if x != want {
					t.Fatalf("%v: cell %d of block %d is %d; want %d", o, i, h, x, want)
				}
			}
			stored[h] = nil
			for i := range a.Len(h) {
				next++
				a.Store(h, i, next)
				stored[h] = append(stored[h], next)
			}
		}
	})
}

func TestP3_8Tight(t *testing.T) {
	eachStep(t, 38, func(a *arena.Arena, o op, _ api.Errno) {
		if o.kind != 'f' && o.kind != 'c' {
			return
		}
		a.Compact() // where blocks lie is not as the model's from here on
		if a.Top() != a.Live() || a.Gap() != a.Size()-a.Live() {
			t.Fatalf("behind Compact: %s", told(a))
		}
		if n := a.Compact(); n != 0 {
			t.Fatalf("Compact once more = %d", n)
		}
	})
}

func TestP3_9Full(t *testing.T) {
	eachStep(t, 39, func(a *arena.Arena, o op, _ api.Errno) {
		gap := a.Gap()
		for _, n := range []int{gap + 1, gap + 2, a.Size() + 1, api.MaxCells} {
			if h, err := a.Alloc(n); h != 0 || err != api.ErrFull {
				t.Fatalf("Gap %d: Alloc(%d) = %d, %v", gap, n, h, err)
			}
		}
		for _, n := range []int{1, (gap + 1) / 2, gap} {
			if n < 1 || n > gap {
				continue
			}
			h, err := a.Alloc(n)
			if err != api.OK {
				t.Fatalf("Gap %d: Alloc(%d) = %v", gap, n, err)
			}
			drop(t, a, h)
		}
		if a.Gap() != gap {
			t.Fatalf("Gap %d was %d", a.Gap(), gap)
		}
	})
}

// TestP2Refused: a call that is refused changes nothing.
func TestP2Refused(t *testing.T) {
	r := rand.New(rand.NewSource(2))
	was, refused := "", 0
	var of *arena.Arena
	eachStep(t, 32, func(a *arena.Arena, o op, answer api.Errno) {
		if a == of && answer != api.OK && o.kind != 'c' {
			refused++
			if told(a) != was {
				t.Fatalf("%v = %v left %s; it was %s", o, answer, told(a), was)
			}
		}
		for _, h := range a.Handles() {
			a.Store(h, r.Intn(a.Len(h)), r.Int63())
		}
		of, was = a, told(a)
	})
	if refused < 300 {
		t.Errorf("%d calls were refused", refused)
	}
}
