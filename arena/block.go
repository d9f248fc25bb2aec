package arena

import (
	"iter"

	"heirloom/api"
)

// block is where a block's cells are, and which blocks lie next to it in the order of addresses.
type block struct {
	at, size      int
	ahead, behind *block
}

func (b *block) end() int { return b.at + b.size }

func (b *block) has(i int) bool { return i >= 0 && i < b.size }

// linkBehind puts a block into the order of addresses.
func (b *block) linkBehind(ahead *block) {
	b.ahead, b.behind = ahead, ahead.behind
	ahead.behind = b
	if b.behind != nil {
		b.behind.ahead = b
	}
}

// made: New made the arena. A zero one is taken as nil is.
func (a *Arena) made() bool { return a != nil && a.front != nil }

// rightLength: an arena, or a block, may have n cells.
func rightLength(n int) bool { return n >= 1 && n <= api.MaxCells }

// find is the block of a handle.
func (a *Arena) find(h int) (*block, api.Errno) {
	if !a.made() {
		return nil, api.ErrNil
	}
	b := a.blocks[h]
	if b == nil {
		return nil, api.ErrNone
	}
	return b, api.OK
}

// freeHandle is the least number that no block has.
func (a *Arena) freeHandle() int {
	for a.blocks[a.least] != nil {
		a.least++
	}
	return a.least
}

// inOrder goes over b and what lies behind it, in the order of addresses: each with how many free cells follow it.
func (a *Arena) inOrder(b *block) iter.Seq2[*block, int] {
	return func(yield func(*block, int) bool) {
		for c := b; c != nil; c = c.behind {
			next := len(a.cells)
			if c.behind != nil {
				next = c.behind.at
			}
			if !yield(c, next-c.end()) {
				return
			}
		}
	}
}

// last is the block behind which there is no other.
func (a *Arena) last() *block {
	last := a.front
	for b := range a.inOrder(last) {
		last = b
	}
	return last
}

// place is the block behind which the place for n cells is; nil, if there is none.
func (a *Arena) place(n int) *block {
	for b, free := range a.inOrder(a.full) {
		if free >= n {
			return b
		}
		if free == 0 && b == a.full && b.behind != nil {
			a.full = b.behind
		}
	}
	return nil
}

// unlink takes a block out of the order of addresses: its cells are free.
func (a *Arena) unlink(b *block) {
	if b.at < a.full.end() {
		a.full = b.ahead
	}
	b.ahead.behind = b.behind
	if b.behind != nil {
		b.behind.ahead = b.ahead
	}
}

// putBehind lets a block that is not in the order of addresses lie right behind another one, with n cells.
func (a *Arena) putBehind(ahead, b *block, n int) {
	b.linkBehind(ahead)
	a.lay(b, ahead.end(), n)
}

// lay moves a block's first cells to another address, which may be among its own; those that are more are 0.
func (a *Arena) lay(b *block, at, n int) {
	kept := min(n, b.size)
	copy(a.cells[at:at+kept], a.cells[b.at:b.at+kept])
	clear(a.cells[at+kept : at+n])
	b.at, b.size = at, n
}
