package heap_test

import (
	"math"
	"slices"
	"testing"

	"heirloom/api"
	"heirloom/heap"
)

// wrongCounts are numbers that are not from 0 to MaxParts.
var wrongCounts = []int{math.MinInt, -1 << 32, -1, api.MaxParts + 1, 1<<32 + 1, math.MaxInt}

func TestP14_2Made(t *testing.T) {
	h := open(t, 1000)
	s := one(t)(h.Text("s"))
	tab := one(t)(h.Table())
	checkObject(t, "Table", h, tab, api.Object{Head: api.Head{Kind: api.TTable, Aux: 2, Slots: 1}, Aux: []int64{0, 0}, Slots: []api.Value{none}})
	proto := one(t)(h.Proto(3, s, whole(5), tab))
	checkObject(t, "Proto", h, proto, api.Object{Head: api.Head{Kind: api.TProto, Serial: 1, Aux: 1, Slots: 3}, Aux: []int64{3}, Slots: []api.Value{s, whole(5), tab}})
	box := one(t)(h.Box(tab))
	checkObject(t, "Box", h, box, api.Object{Head: api.Head{Kind: api.TBox, Serial: 2, Slots: 1}, Slots: []api.Value{tab}})
	one(t)(h.Text("t")) // a string does not count
	f := one(t)(h.Func(proto, box, box))
	checkObject(t, "Func", h, f, api.Object{Head: api.Head{Kind: api.TFunc, Serial: 3, Slots: 3}, Slots: []api.Value{proto, box, box}})
	thread := one(t)(h.Thread(2))
	checkObject(t, "Thread", h, thread, api.Object{Head: api.Head{Kind: api.TThread, Serial: 4, Slots: 2}, Slots: []api.Value{none, none}})
	checkObject(t, "Proto without constants", h, one(t)(h.Proto(0)), api.Object{Head: api.Head{Kind: api.TProto, Serial: 5, Aux: 1}, Aux: []int64{0}})
	checkObject(t, "Func without boxes", h, one(t)(h.Func(proto)), api.Object{Head: api.Head{Kind: api.TFunc, Serial: 6, Slots: 1}, Slots: []api.Value{proto}})
	checkObject(t, "Thread without slots", h, one(t)(h.Thread(0)), api.Object{Head: api.Head{Kind: api.TThread, Serial: 7}})
	checkCounts(t, "all", h, 8, 0, 0)
	live := 2*textCells(1) + tableCells + (3 + 6) + boxCells + (2 + 6) + (2 + 4) + 3 + 4 + 2
	checkFree(t, "all", h, live, live, 1000-live)
	checkRules(t, "all", h)
}

// Values of all kinds may be constants, and lie in boxes.
func TestP14_2Values(t *testing.T) {
	h := open(t, 1000)
	l := slices.Clone(plain)
	proto := one(t)(h.Proto(api.MaxParts))
	box := one(t)(h.Box(none))
	l = append(l, proto, box, one(t)(h.Text("")), one(t)(h.Table()), one(t)(h.Func(proto, box)), one(t)(h.Thread(1)))
	for _, v := range l {
		b := one(t)(h.Box(v))
		got, err := h.Slot(b, 0)
		checkAnswer(t, "in a box", got, err, v, api.OK)
	}
	p := one(t)(h.Proto(1, l...))
	for i, v := range l {
		got, err := h.Slot(p, i)
		checkAnswer(t, "a constant", got, err, v, api.OK)
	}
	checkRules(t, "all", h)
}

// Serials go on, whatever is collected, and wherever handles come again.
func TestP14_2Serial(t *testing.T) {
	h := open(t, 60)
	for i := range 500 {
		makers := []func() (api.Value, api.Errno){h.Table, func() (api.Value, api.Errno) { return h.Box(none) }, func() (api.Value, api.Errno) { return h.Thread(3) }, func() (api.Value, api.Errno) { return h.Proto(1) }}
		v := one(t)(makers[i%len(makers)]())
		check(t, "Serial", head(t, h, v).Serial, i)
		if i%3 == 0 {
			one(t)(h.Text("a"))
		}
		made, _, _ := h.Counts()
		check(t, "made", made, i+1)
	}
	if _, _, emergencies := h.Counts(); emergencies < 10 {
		t.Errorf("%d emergencies", emergencies)
	}
}

// What is refused is not made, and does not count.
func TestP14_2Refused(t *testing.T) {
	h := open(t, 60)
	proto := one(t)(h.Proto(0))
	box := one(t)(h.Box(none))
	h.SetRoots(proto, box)
	for _, n := range wrongCounts {
		v, err := h.Proto(n)
		checkRefused(t, "Proto", v, err, api.ErrArg)
		v, err = h.Thread(n)
		checkRefused(t, "Thread", v, err, api.ErrArg)
	}
	for _, x := range never {
		v, err := h.Proto(0, none, x)
		checkRefused(t, "Proto", v, err, api.ErrArg)
		v, err = h.Func(x, box)
		checkRefused(t, "Func", v, err, api.ErrArg)
		v, err = h.Func(proto, box, x)
		checkRefused(t, "Func", v, err, api.ErrArg)
		v, err = h.Func(box, x) // ErrArg is named first
		checkRefused(t, "Func", v, err, api.ErrArg)
		v, err = h.Box(x)
		checkRefused(t, "Box", v, err, api.ErrArg)
	}
	for _, x := range append(slices.Clone(plain), box) {
		v, err := h.Func(x)
		checkRefused(t, "Func of no prototype", v, err, api.ErrType)
	}
	for _, x := range append(slices.Clone(plain), proto) {
		v, err := h.Func(proto, box, x)
		checkRefused(t, "Func with no box", v, err, api.ErrType)
	}
	checkCounts(t, "refused", h, 2, 0, 0)
	checkFree(t, "refused", h, 3+boxCells, 3+boxCells, 60-3-boxCells)
	for _, kind := range kinds {
		for n := range 4 {
			x := leading(kind, n)
			if x != proto && x != box {
				v, err := h.Box(x)
				checkRefused(t, "Box of another kind", v, err, api.ErrArg)
			}
		}
	}
}

// MaxParts slots are made, one more is not, whatever room there is.
func TestP14_2Many(t *testing.T) {
	for _, size := range []int{api.MaxCells, 20} {
		h := open(t, size)
		proto, box := one(t)(h.Proto(0)), one(t)(h.Box(none))
		h.SetRoots(proto, box)
		most := slices.Repeat([]api.Value{box}, api.MaxParts)
		v, err := h.Func(proto, most...)
		checkRefused(t, "Func with MaxParts and 1", v, err, api.ErrMany)
		v, err = h.Proto(0, append(most, none)...)
		checkRefused(t, "Proto with MaxParts and 1", v, err, api.ErrMany)
		v, err = h.Proto(-1, append(most, none)...)
		checkRefused(t, "Proto with a wrong index too", v, err, api.ErrArg)
		v, err = h.Func(proto, append(most, none)...)
		checkRefused(t, "Func with no box too", v, err, api.ErrType)
		v, err = h.Func(proto, append(most, never[0])...)
		checkRefused(t, "Func with what is not there too", v, err, api.ErrArg)
		checkCounts(t, "too many", h, 2, 0, 0)
		f, err := h.Func(proto, most[1:]...)
		p, err2 := h.Proto(api.MaxParts, most...)
		g, err3 := h.Thread(api.MaxParts)
		if size == 20 {
			checkRefused(t, "Func", f, err, api.ErrFull)
			checkRefused(t, "Proto", p, err2, api.ErrFull)
			checkRefused(t, "Thread", g, err3, api.ErrFull)
			checkCounts(t, "no room", h, 2, 0, 3)
			continue
		}
		for _, v := range []api.Value{f, p, g} {
			check(t, "slots", head(t, h, v).Slots, api.MaxParts)
		}
		check(t, "errors", [3]api.Errno{err, err2, err3}, [3]api.Errno{})
		checkRules(t, "MaxParts", h)
	}
}

// An object is born of the current white, and New.
func TestP14_2Birth(t *testing.T) {
	makers := []func(h *heap.Heap) (api.Value, api.Errno){
		func(h *heap.Heap) (api.Value, api.Errno) { return h.Table() },
		func(h *heap.Heap) (api.Value, api.Errno) { return h.Proto(0) },
		func(h *heap.Heap) (api.Value, api.Errno) { return h.Func(h.Roots()[0]) },
		func(h *heap.Heap) (api.Value, api.Errno) { return h.Box(h.Roots()[0]) },
		func(h *heap.Heap) (api.Value, api.Errno) { return h.Thread(1) },
	}
	for _, make := range makers {
		h := open(t, 200)
		h.SetRoots(one(t)(h.Proto(0)))
		for range 2 {
			for range 12 {
				h.Step(1)
				v := one(t)(make(h))
				checkLooks(t, "by steps", h, v, h.View().White, api.New)
				checkRules(t, "by steps", h)
			}
			h.SetMode(api.ModeGen)
			checkLooks(t, "by generations", h, one(t)(make(h)), h.View().White, api.New)
			h.Young()
			checkLooks(t, "by generations", h, one(t)(make(h)), h.View().White, api.New)
			checkRules(t, "by generations", h)
			h.SetMode(api.ModeInc)
		}
	}
}

func TestP14_2Grow(t *testing.T) {
	h := open(t, api.MaxCells)
	a := one(t)(h.Thread(2))
	b := one(t)(h.Thread(0))
	h.SetRoots(a, b)
	check(t, "SetSlot", h.SetSlot(a, 1, whole(7)), api.OK)
	check(t, "SetSlot", h.SetSlot(a, 0, b), api.OK)
	for _, n := range []int{0, 1, 2} {
		check(t, "Grow to no more", h.Grow(a, n), api.OK)
		check(t, "slots", head(t, h, a).Slots, 2)
	}
	for _, n := range []int{3, 4, 10, 9, api.MaxParts} {
		check(t, "Grow", h.Grow(a, n), api.OK)
		want := make([]api.Value, max(n, head(t, h, a).Slots))
		want[0], want[1] = b, whole(7)
		checkObject(t, "Grow", h, a, api.Object{Head: api.Head{Kind: api.TThread, Slots: len(want)}, Slots: want})
		checkRules(t, "Grow", h)
	}
	for _, n := range wrongCounts {
		check(t, "Grow to a wrong number", h.Grow(a, n), api.ErrArg)
		check(t, "Grow of nothing to a wrong number", h.Grow(none, n), api.ErrType)
	}
	live, _, _ := h.Free()
	check(t, "cells", live, 2+2*api.MaxParts+2)
	checkCounts(t, "Grow", h, 2, 0, 0)
}

func TestP14_2GrowOfOthers(t *testing.T) {
	h := open(t, 200)
	a := one(t)(h.Thread(2))
	proto, box := one(t)(h.Proto(0)), one(t)(h.Box(none))
	l := []api.Value{proto, box, one(t)(h.Text("")), one(t)(h.Table()), one(t)(h.Func(proto, box)), leading(api.TTable, int(a.N)), leading(api.TThread, int(box.N)), leading(api.TThread, 99)}
	for _, v := range append(append(l, never...), plain...) {
		for _, n := range []int{-1, 0, 1, 3, api.MaxParts + 1} {
			check(t, "Grow of no thread", h.Grow(v, n), api.ErrType)
		}
	}
	h.Major()
	check(t, "Grow of one that is gone", h.Grow(a, 3), api.ErrType)
}

// What lay in the cells that a thread comes to have is not seen in its slots.
func TestP14_2GrowOverWhatWas(t *testing.T) {
	h := open(t, 60)
	a := one(t)(h.Thread(1))
	h.SetRoots(a)
	check(t, "SetSlot", h.SetSlot(a, 0, whole(1)), api.OK)
	var l []api.Value
	for i := range 10 {
		l = append(l, one(t)(h.Box(whole(-i))))
	}
	h.Major()
	checkGone(t, "boxes", h, l...)
	check(t, "Grow", h.Grow(a, 9), api.OK)
	want := make([]api.Value, 9)
	want[0] = whole(1)
	checkObject(t, "Grow", h, a, api.Object{Head: api.Head{Kind: api.TThread, Slots: 9}, Slots: want})
	one(t)(h.Box(none))
	b := one(t)(h.Thread(6))
	checkObject(t, "Thread", h, b, api.Object{Head: api.Head{Kind: api.TThread, Serial: 12, Slots: 6}, Slots: make([]api.Value, 6)})
}
