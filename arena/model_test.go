package arena_test

import (
	"fmt"
	"slices"
	"testing"

	"heirloom/api"
	"heirloom/arena"
)

// model is an arena told again, cell by cell: whose each cell is, and what each block has.
type model struct {
	owner []int // by addresses: the handle; 0: the cell is free
	has   map[int][]int64
}

func newModel(size int) *model {
	return &model{owner: make([]int, size), has: map[int][]int64{}}
}

// free: n cells from an address on are free, or of the block but.
func (m *model) free(at, n, but int) bool {
	for i := at; i < at+n; i++ {
		if i >= len(m.owner) || m.owner[i] != 0 && m.owner[i] != but {
			return false
		}
	}
	return true
}

// place is where n cells are free, or of the block but; -1: nowhere.
func (m *model) place(n, but int) int {
	for at := range m.owner {
		if m.free(at, n, but) {
			return at
		}
	}
	return -1
}

func (m *model) addr(h int) int {
	if h < 1 {
		return -1
	}
	return slices.Index(m.owner, h)
}

func (m *model) lift(h int) {
	for i, o := range m.owner {
		if o == h {
			m.owner[i] = 0
		}
	}
}

func (m *model) put(h, at int) {
	for i := range m.has[h] {
		m.owner[at+i] = h
	}
}

// byAddress are the handles, by where their blocks lie.
func (m *model) byAddress() []int {
	var l []int
	for _, o := range m.owner {
		if o != 0 && !slices.Contains(l, o) {
			l = append(l, o)
		}
	}
	return l
}

func (m *model) live() int {
	n := 0
	for _, l := range m.has {
		n += len(l)
	}
	return n
}

func (m *model) gap() int {
	n := 0
	for m.place(n+1, 0) >= 0 {
		n++
	}
	return n
}

func (m *model) top() int {
	for i := len(m.owner); i > 0; i-- {
		if m.owner[i-1] != 0 {
			return i
		}
	}
	return 0
}

func (m *model) alloc(n int) (int, api.Errno) {
	if n < 1 || n > 65536 {
		return 0, api.ErrArg
	}
	at := m.place(n, 0)
	if at < 0 {
		return 0, api.ErrFull
	}
	h := 1
	for m.has[h] != nil {
		h++
	}
	m.has[h] = make([]int64, n)
	m.put(h, at)
	return h, api.OK
}

func (m *model) release(h int) api.Errno {
	if m.has[h] == nil {
		return api.ErrNone
	}
	m.lift(h)
	delete(m.has, h)
	return api.OK
}

// cut is a block's cells with another length.
func (m *model) cut(h, n int) []int64 {
	return append(slices.Clone(m.has[h]), make([]int64, n)...)[:n]
}

func (m *model) resize(h, n int) api.Errno {
	if m.has[h] == nil {
		return api.ErrNone
	}
	if n < 1 || n > 65536 {
		return api.ErrArg
	}
	at := m.place(n, h)
	if at < 0 {
		return api.ErrFull
	}
	m.lift(h)
	m.has[h] = m.cut(h, n)
	m.put(h, at)
	return api.OK
}

func (m *model) extend(h, n int) api.Errno {
	if m.has[h] == nil {
		return api.ErrNone
	}
	if n < 1 || n > 65536 {
		return api.ErrArg
	}
	if m.live()-len(m.has[h])+n > len(m.owner) {
		return api.ErrFull
	}
	m.lift(h)
	m.compact()
	at := m.top()
	m.has[h] = m.cut(h, n)
	m.put(h, at)
	return api.OK
}

func (m *model) compact() int {
	moved, end := 0, 0
	for _, h := range m.byAddress() {
		if m.addr(h) != end {
			m.lift(h)
			m.put(h, end)
			moved++
		}
		end += len(m.has[h])
	}
	return moved
}

// op is a call: 'a' Alloc(n), 'f' Free(h), 'r' Resize(h, n), 'e' Extend(h, n), 'c' Compact.
type op struct {
	kind byte
	h, n int
}

func (o op) String() string { return fmt.Sprintf("%c(%d, %d)", o.kind, o.h, o.n) }

// do makes a call of the arena and of the model: their answers.
func (o op) do(a *arena.Arena, m *model) (got, want [2]int) {
	switch o.kind {
	case 'a':
		h, err := a.Alloc(o.n)
		g, fault := m.alloc(o.n)
		return [2]int{h, int(err)}, [2]int{g, int(fault)}
	case 'f':
		return [2]int{int(a.Free(o.h))}, [2]int{int(m.release(o.h))}
	case 'r':
		return [2]int{int(a.Resize(o.h, o.n))}, [2]int{int(m.resize(o.h, o.n))}
	case 'e':
		return [2]int{int(a.Extend(o.h, o.n))}, [2]int{int(m.extend(o.h, o.n))}
	}
	return [2]int{a.Compact()}, [2]int{m.compact()}
}

// differs tells how an arena is not as the model is; "": it is.
func differs(a *arena.Arena, m *model) string {
	got := []int{a.Size(), a.Live(), a.Top(), a.Gap()}
	want := []int{len(m.owner), m.live(), m.top(), m.gap()}
	if !slices.Equal(got, want) {
		return fmt.Sprintf("Size, Live, Top, Gap = %v; want %v", got, want)
	}
	var all []int
	for h := -1; h <= len(m.owner)+1; h++ {
		if m.has[h] != nil {
			all = append(all, h)
		}
		if a.Len(h) != len(m.has[h]) || a.Addr(h) != m.addr(h) {
			return fmt.Sprintf("block %d: Len, Addr = %d, %d; want %d, %d", h, a.Len(h), a.Addr(h), len(m.has[h]), m.addr(h))
		}
		if l := cellsOf(a, h); !slices.Equal(l, m.has[h]) {
			return fmt.Sprintf("block %d has %v; want %v", h, l, m.has[h])
		}
	}
	if l := a.Handles(); !slices.Equal(l, all) {
		return fmt.Sprintf("Handles = %v; want %v", l, all)
	}
	return ""
}

// cellsOf are a block's cells.
func cellsOf(a *arena.Arena, h int) []int64 {
	var l []int64
	for i := 0; ; i++ {
		x, err := a.Load(h, i)
		if err != api.OK {
			return l
		}
		l = append(l, x)
	}
}

// fill stores a number that no cell had so far into each cell of the model and the arena that is 0.
func fill(a *arena.Arena, m *model, last int64) int64 {
	for h := 1; h <= len(m.owner); h++ {
		for i, x := range m.has[h] {
			if x == 0 {
				last++
				m.has[h][i] = last
				a.Store(h, i, last)
			}
		}
	}
	return last
}

// told is all that can be asked of an arena, as a text.
func told(a *arena.Arena) string {
	s := fmt.Sprint(a.Size(), a.Live(), a.Top(), a.Gap(), a.Handles())
	for _, h := range a.Handles() {
		s += fmt.Sprint(" ", h, a.Addr(h), a.Len(h), cellsOf(a, h))
	}
	return s
}

// newArena is an arena with blocks of these lengths, their handles from 1 on; cell i of block h is 100h + i.
func newArena(t *testing.T, size int, lengths ...int) *arena.Arena {
	t.Helper()
	a, err := arena.New(size)
	if err != api.OK {
		t.Fatalf("New(%d): %v", size, err)
	}
	for k, n := range lengths {
		if h, err := a.Alloc(n); h != k+1 || err != api.OK {
			t.Fatalf("Alloc(%d) = %d, %v", n, h, err)
		}
		for i := range n {
			if err := a.Store(k+1, i, numbered(k+1, i)); err != api.OK {
				t.Fatalf("Store(%d, %d): %v", k+1, i, err)
			}
		}
	}
	return a
}

func numbered(h, i int) int64 { return int64(100*h + i) }

// numbers are the first n cells of a block as newArena makes it, and zeros behind them.
func numbers(h, n, zeros int) []int64 {
	var l []int64
	for i := range n {
		l = append(l, numbered(h, i))
	}
	return append(l, make([]int64, zeros)...)
}

// drop frees blocks.
func drop(t *testing.T, a *arena.Arena, l ...int) {
	t.Helper()
	for _, h := range l {
		if err := a.Free(h); err != api.OK {
			t.Fatalf("Free(%d): %v", h, err)
		}
	}
}

// expect holds a block's address and cells against what they must be.
func expect(t *testing.T, a *arena.Arena, h, at int, want []int64) {
	t.Helper()
	if a.Addr(h) != at || a.Len(h) != len(want) || !slices.Equal(cellsOf(a, h), want) {
		t.Errorf("block %d: at %d, %d cells, %v; want at %d, %v", h, a.Addr(h), a.Len(h), cellsOf(a, h), at, want)
	}
}
