package heap_test

import (
	"math"
	"testing"

	"heirloom/api"
	"heirloom/collect"
	"heirloom/heap"
)

func TestP14_5Roots(t *testing.T) {
	h := open(t, 100)
	a, b, c := whole(1), whole(2), whole(3)
	h.Keep(a)
	h.SetRoots(b, c)
	checkList(t, "Roots", h.Roots(), b, c, a)
	h.Keep(c, never[0])
	checkList(t, "Roots", h.Roots(), b, c, a, c, never[0])
	h.Keep()
	h.SetRoots(a)
	checkList(t, "Roots", h.Roots(), a, a, c, never[0])
	for _, n := range []int{0, -1, math.MinInt} {
		h.Release(n)
		checkList(t, "Release of none", h.Roots(), a, a, c, never[0])
	}
	h.Release(1)
	checkList(t, "Release of the last one", h.Roots(), a, a, c)
	h.Keep(b)
	checkList(t, "Keep", h.Roots(), a, a, c, b)
	h.Release(2)
	checkList(t, "Release of fewer", h.Roots(), a, a)
	h.Keep(b, c)
	h.Release(3)
	checkList(t, "Release of all", h.Roots(), a)
	h.Keep(b, c)
	h.Release(math.MaxInt)
	checkList(t, "Release of more", h.Roots(), a)
	h.SetRoots()
	checkList(t, "no roots", h.Roots())
	h.Release(1)
	checkList(t, "Release of none that are kept", h.Roots())
}

// Lists that are handed in and out are the caller's.
func TestP14_5OwnLists(t *testing.T) {
	h := open(t, 100)
	l := []api.Value{whole(1), whole(2)}
	h.SetRoots(l...)
	h.Keep(l...)
	l[0] = whole(9)
	checkList(t, "what was handed in", h.Roots(), whole(1), whole(2), whole(1), whole(2))
	out := h.Roots()
	out[0], out[3] = whole(8), whole(8)
	_ = append(out[:2], whole(7))
	checkList(t, "what was handed out", h.Roots(), whole(1), whole(2), whole(1), whole(2))
	box := one(t)(h.Box(none))
	boxes := []api.Value{box, box}
	f := one(t)(h.Func(one(t)(h.Proto(0)), boxes...))
	p := one(t)(h.Proto(0, boxes...))
	boxes[0] = none
	for _, v := range []api.Value{f, p} {
		if o, _ := h.Object(v); o.Slots[len(o.Slots)-2] != box {
			t.Errorf("slots are the caller's list: %v", o)
		}
	}
	v := h.View()
	v.Seen[0].Thing.Slots[0] = whole(5)
	v.Seen[0].H = 99
	if got, err := h.Slot(box, 0); got != none || err != api.OK {
		t.Errorf("slots are the view's: %v", got)
	}
}

// What is held by the roots, or kept, or leads on from there, lives; all else is dropped.
func TestP14_5Collected(t *testing.T) {
	for _, collected := range []func(h *heap.Heap){
		func(h *heap.Heap) { h.Major() },
		func(h *heap.Heap) { h.Step(math.MaxInt) },
		func(h *heap.Heap) {
			for !h.Step(1) {
			}
		},
		func(h *heap.Heap) { h.SetMode(api.ModeGen) },
	} {
		h := open(t, 500)
		a := one(t)(h.Table())
		h.SetRoots(a)
		b := one(t)(h.Table())
		h.Keep(b)
		s, x := one(t)(h.Text("key")), one(t)(h.Box(none))
		check(t, "Set", h.Set(a, s, x), api.OK)
		proto := one(t)(h.Proto(2, s))
		f := one(t)(h.Func(proto, x))
		check(t, "Set", h.Set(b, f, f), api.OK)
		lost := []api.Value{one(t)(h.Text("lost")), one(t)(h.Thread(2)), one(t)(h.Table()), one(t)(h.Proto(1)), one(t)(h.Box(a))}
		lost = append(lost, one(t)(h.Func(lost[3])))
		check(t, "SetSlot", h.SetSlot(lost[1], 0, lost[2]), api.OK)
		check(t, "SetSlot", h.SetSlot(lost[1], 1, lost[1]), api.OK)
		live, _, _ := h.Free()
		cells := textCells(4) + (2 + 4) + tableCells + 3 + boxCells + 4
		collected(h)
		checkThere(t, "held", h, a, b, s, x, proto, f)
		checkGone(t, "lost", h, lost...)
		now, _, _ := h.Free()
		check(t, "cells", now, live-cells)
		if _, is := h.Bytes(lost[0]); is {
			t.Error("the text is there still")
		}
		if again := one(t)(h.Text("lost")); again.T != api.TStr {
			t.Errorf("Text: %v", again)
		}
		checkRules(t, "collected", h)
		h.Release(1)
		h.SetRoots(x)
		h.SetMode(api.ModeInc)
		h.Major()
		checkThere(t, "held", h, x)
		checkGone(t, "held no more", h, a, b, s, proto, f)
		checkFree(t, "held no more", h, boxCells, h.Addr(int(x.N))+boxCells, 500-h.Addr(int(x.N))-boxCells)
	}
}

// The collector's calls are the collector's: the same over a heap and over a graph that is alike.
func TestP14_5Collector(t *testing.T) {
	h := open(t, 1000)
	m := collect.NewMem(api.Graph{})
	c := collect.New(m)
	make := func(v api.Value, err api.Errno) api.Value {
		t.Helper()
		one(t)(v, err)
		o, _ := h.Object(v)
		th := api.Thing{Kind: v.T, Slots: o.Slots}
		if got := m.Add(th); got != int(v.N) {
			t.Fatalf("handles: %d, %d", got, v.N)
		}
		c.Birth(int(v.N))
		return v
	}
	put := func(v api.Value, i int, x api.Value) {
		t.Helper()
		check(t, "SetSlot", h.SetSlot(v, i, x), api.OK)
		m.Set(int(v.N), i, x)
		c.Write(int(v.N), x)
	}
	var all []api.Value
	for i := range 10 {
		all = append(all, make(h.Thread(2)), make(h.Box(none)), make(h.Table()))
		put(all[3*i], 0, all[(7*i)%len(all)])
		put(all[3*i+1], 0, all[(5*i)%len(all)])
	}
	h.SetRoots(all[0])
	h.Keep(all[4], all[20])
	m.SetRoots(all[0], all[4], all[20])
	for _, i := range []int{2, 5, 23} {
		check(t, "Mark", h.Mark(all[i]), api.OK)
		_, marked, _ := h.Counts()
		m.SetFin(int(all[i].N), marked)
	}
	compare := func(name string) {
		t.Helper()
		if !same([]any{h.View()}, []any{c.View()}) {
			t.Fatalf("%s: %v, want %v", name, h.View(), c.View())
		}
	}
	compare("at first")
	for i := range 100 {
		check(t, "Step", h.Step(i%4), c.Step(i%4))
		compare("Step")
		if i%9 == 0 {
			put(all[0], 1, all[0])
		}
	}
	check(t, "Young in ModeInc", h.Young(), false)
	for _, mode := range []int{-1, 2, api.ModeGen, api.ModeGen} {
		h.SetMode(mode)
		c.SetMode(mode)
		compare("SetMode")
	}
	check(t, "Step in ModeGen", h.Step(5), false)
	for range 5 {
		check(t, "Young", h.Young(), c.Young())
		compare("Young")
	}
	h.Major()
	c.Major()
	compare("Major")
	h.SetMode(api.ModeInc)
	c.SetMode(api.ModeInc)
	compare("SetMode")
	taken := 0
	for {
		v, is := h.Take()
		b, is2 := c.Take()
		check(t, "Take", is, is2)
		if !is {
			check(t, "Take of nothing", v, none)
			break
		}
		taken++
		check(t, "Take", v, leading(api.TTable, b))
		compare("Take")
	}
	check(t, "how many were taken", taken, 2)
}

// Young is Major once there is more than twice of what was there behind the last one: cells are counted as blocks have them.
func TestP14_5Base(t *testing.T) {
	h := open(t, 1000)
	tab := one(t)(h.Table())
	h.SetRoots(tab)
	h.SetMode(api.ModeGen) // the base is 6
	h.Keep(one(t)(h.Box(none)))
	h.Keep(one(t)(h.Thread(0)))
	check(t, "Young at twice the base", h.Young(), false)
	h.Keep(one(t)(h.Thread(0)))
	check(t, "Young above it", h.Young(), true) // the base is 14
	check(t, "Set", h.Set(tab, yes, yes), api.OK)
	h.Keep(one(t)(h.Text("12345678901234"))) // 23 cells
	check(t, "Young", h.Young(), false)
	h.Keep(one(t)(h.Text("12345678"))) // 27
	h.Keep(one(t)(h.Thread(0)))        // 29
	check(t, "Young", h.Young(), true)
}

// What is to be finalised comes once a mark, what was marked last first, and lives till it is taken.
func TestP14_5Take(t *testing.T) {
	h := open(t, 200)
	var l []api.Value
	for range 4 {
		v := one(t)(h.Table())
		l = append(l, v)
		check(t, "Mark", h.Mark(v), api.OK)
	}
	inner := one(t)(h.Box(none))
	check(t, "Set", h.Set(l[1], yes, inner), api.OK)
	h.SetRoots(l[2])
	v, is := h.Take()
	check(t, "Take ahead", v, none)
	check(t, "Take ahead", is, false)
	h.Major()
	h.Major()
	h.SetMode(api.ModeGen)
	h.Young()
	checkThere(t, "pending", h, append(l, inner)...)
	for _, i := range []int{3, 1, 0} {
		v, is := h.Take()
		check(t, "Take", v, l[i])
		check(t, "Take", is, true)
	}
	v, is = h.Take()
	check(t, "Take of nothing", v, none)
	check(t, "Take of nothing", is, false)
	h.Major()
	checkGone(t, "finalised", h, l[0], l[1], l[3], inner)
	checkThere(t, "held", h, l[2])
	checkCounts(t, "finalised", h, 5, 4, 0)
}
