package heap_test

import (
	"math"
	"slices"
	"testing"

	"heirloom/api"
	"heirloom/heap"
)

// sample makes one of each kind, all of them held.
func sample(t *testing.T, h *heap.Heap) (str, tab, fun, box, thread, proto api.Value) {
	t.Helper()
	str = one(t)(h.Text("ab"))
	h.Keep(str)
	tab = one(t)(h.Table())
	h.Keep(tab)
	proto = one(t)(h.Proto(4, str, whole(1)))
	h.Keep(proto)
	box = one(t)(h.Box(tab))
	h.Keep(box)
	fun = one(t)(h.Func(proto, box))
	h.Keep(fun)
	thread = one(t)(h.Thread(3))
	h.Keep(thread)
	return str, tab, fun, box, thread, proto
}

func TestP14_3Object(t *testing.T) {
	h := open(t, 200)
	str, tab, fun, box, thread, proto := sample(t, h)
	checkObject(t, "a string", h, str, api.Object{Head: api.Head{Kind: api.TStr, Aux: 2}, Aux: []int64{2, 25185}})
	checkObject(t, "a function", h, fun, api.Object{Head: api.Head{Kind: api.TFunc, Serial: 3, Slots: 2}, Slots: []api.Value{proto, box}})
	// What is handed out is the caller's own.
	for _, v := range []api.Value{str, tab, fun, box, thread, proto} {
		o, is := h.Object(v)
		if !is {
			t.Fatalf("%v is not there", v)
		}
		kept := api.Object{Head: o.Head, Aux: slices.Clone(o.Aux), Slots: slices.Clone(o.Slots)}
		for i := range o.Aux {
			o.Aux[i] = 99
		}
		for i := range o.Slots {
			o.Slots[i] = whole(99)
		}
		checkObject(t, "asked again", h, v, kept)
	}
	for _, v := range slices.Concat(never, plain, []api.Value{leading(api.TBox, int(tab.N)), leading(api.TStr, int(thread.N)), leading(api.TTable, 7)}) {
		checkGone(t, "no object", h, v)
		if s, is := h.Bytes(v); s != "" || is {
			t.Errorf("Bytes(%v): %q, %v", v, s, is)
		}
	}
	if s, is := h.Bytes(str); s != "ab" || !is {
		t.Errorf("Bytes: %q, %v", s, is)
	}
	for _, v := range []api.Value{tab, fun, box, thread, proto} {
		if s, is := h.Bytes(v); s != "" || is {
			t.Errorf("Bytes of no string: %q, %v", s, is)
		}
	}
}

// Colours and ages are as the collector has them.
func TestP14_3Looks(t *testing.T) {
	h := open(t, 300)
	sample(t, h)
	compare := func() {
		t.Helper()
		for _, s := range h.View().Seen {
			checkLooks(t, "Object and View", h, leading(s.Thing.Kind, s.H), s.Colour, s.Age)
		}
	}
	for range 20 {
		h.Step(1)
		compare()
	}
	h.SetMode(api.ModeGen)
	for range 5 {
		compare()
		h.Keep(one(t)(h.Box(none)))
		h.Young()
	}
	ages := map[int]int{}
	for _, s := range h.View().Seen {
		ages[s.Age]++
	}
	if ages[api.Old] == 0 || ages[api.Old1] == 0 || ages[api.Survival] == 0 {
		t.Errorf("ages: %v", ages)
	}
}

func TestP14_3Slot(t *testing.T) {
	h := open(t, 300)
	str, tab, fun, box, thread, proto := sample(t, h)
	check(t, "Set", h.Set(tab, str, box), api.OK)
	for _, v := range []api.Value{str, tab, fun, box, thread, proto} {
		o, _ := h.Object(v)
		for i, want := range o.Slots {
			got, err := h.Slot(v, i)
			checkAnswer(t, "Slot", got, err, want, api.OK)
		}
		for _, i := range []int{math.MinInt, -1 << 32, -1, len(o.Slots), len(o.Slots) + 1, api.MaxParts, 1 << 32, math.MaxInt} {
			got, err := h.Slot(v, i)
			checkRefused(t, "Slot that there is not", got, err, api.ErrArg)
			check(t, "SetSlot that there is not", h.SetSlot(v, i, none), api.ErrArg)
		}
		checkObject(t, "refused", h, v, o)
	}
	for _, v := range slices.Concat(never, plain, []api.Value{leading(api.TBox, int(tab.N)), leading(api.TTable, 7)}) {
		got, err := h.Slot(v, 0)
		checkRefused(t, "Slot of no object", got, err, api.ErrType)
		check(t, "SetSlot of no object", h.SetSlot(v, -1, never[0]), api.ErrType)
	}
	check(t, "nodes", head(t, h, tab).Slots, 3)
	checkObject(t, "a table's slots", h, tab, api.Object{Head: api.Head{Kind: api.TTable, Aux: 2, Slots: 3}, Aux: []int64{0, 1}, Slots: []api.Value{none, str, box}})
}

func TestP14_3SetSlot(t *testing.T) {
	h := open(t, 300)
	str, tab, fun, box, thread, proto := sample(t, h)
	l := slices.Concat(plain, []api.Value{str, tab, fun, box, thread, proto})
	for i := range 3 {
		for _, x := range l {
			check(t, "SetSlot", h.SetSlot(thread, i, x), api.OK)
			want := make([]api.Value, 3)
			for j := range i {
				want[j] = l[len(l)-1]
			}
			want[i] = x
			checkObject(t, "SetSlot", h, thread, api.Object{Head: api.Head{Kind: api.TThread, Serial: 4, Slots: 3}, Slots: want})
		}
	}
	before, _ := h.Object(thread)
	for _, x := range append(never, leading(api.TBox, int(tab.N)), leading(api.TFunc, 7)) {
		check(t, "SetSlot to what is not there", h.SetSlot(thread, 0, x), api.ErrArg)
	}
	checkObject(t, "refused", h, thread, before)
	check(t, "SetSlot", h.SetSlot(proto, 1, tab), api.OK)
	check(t, "SetSlot", h.SetSlot(box, 0, fun), api.OK)
	other := one(t)(h.Box(none))
	check(t, "SetSlot", h.SetSlot(fun, 1, other), api.OK)
	checkObject(t, "a constant", h, proto, api.Object{Head: api.Head{Kind: api.TProto, Serial: 1, Aux: 1, Slots: 2}, Aux: []int64{4}, Slots: []api.Value{str, tab}})
	checkObject(t, "a box", h, box, api.Object{Head: api.Head{Kind: api.TBox, Serial: 2, Slots: 1}, Slots: []api.Value{fun}})
	checkObject(t, "a function", h, fun, api.Object{Head: api.Head{Kind: api.TFunc, Serial: 3, Slots: 2}, Slots: []api.Value{proto, other}})
	checkRules(t, "SetSlot", h)
}

// Each write is told to the collector: by steps, and by generations.
func TestP14_3Write(t *testing.T) {
	h := open(t, 300)
	_, tab, fun, box, thread, proto := sample(t, h)
	for _, v := range []api.Value{tab, fun, box, thread, proto} {
		toPhase(t, h, api.PhasePause)
		toPhase(t, h, api.PhaseMark)
		for len(h.View().Grey) > 0 {
			h.Step(1)
		}
		checkLooks(t, "gone through", h, v, api.Black, api.New)
		x := one(t)(h.Table())
		if v == fun {
			x = one(t)(h.Box(none))
		}
		o, _ := h.Object(v)
		check(t, "SetSlot", h.SetSlot(v, len(o.Slots)-1, x), api.OK)
		checkRules(t, "SetSlot", h)
		if v == tab || v == thread {
			checkLooks(t, "what is written into", h, v, api.Grey, api.New)
			checkList(t, "Again", h.View().Again, int(v.N))
		} else {
			checkLooks(t, "what is written", h, x, api.Grey, api.New)
			checkList(t, "Grey", h.View().Grey, int(x.N))
		}
		toPhase(t, h, api.PhasePause)
		checkThere(t, "what is written", h, x)
	}
	h.SetMode(api.ModeGen)
	for _, v := range []api.Value{tab, fun, box, thread, proto} {
		checkLooks(t, "Old", h, v, api.Black, api.Old)
		x := one(t)(h.Table())
		if v == fun {
			x = one(t)(h.Box(none))
		}
		o, _ := h.Object(v)
		check(t, "SetSlot", h.SetSlot(v, len(o.Slots)-1, x), api.OK)
		checkRules(t, "SetSlot", h)
		if v == tab || v == thread {
			checkLooks(t, "what is written into", h, v, api.Grey, api.Touched1)
		} else {
			checkLooks(t, "what is written", h, x, api.Grey, api.Old0)
		}
		h.Young()
		checkThere(t, "what is written", h, x)
		checkRules(t, "Young", h)
	}
}
