package heap_test

import (
	"fmt"
	"slices"
	"testing"

	"heirloom/api"
	"heirloom/heap"
	"heirloom/text"
)

// The chapter's example.
func TestP14_4Example(t *testing.T) {
	h := open(t, 40)
	tab := one(t)(h.Table())
	check(t, "Table", tab, leading(api.TTable, 1))
	check(t, "its cells", h.Arena.Len(1), 6)
	ab := one(t)(h.Text("ab"))
	check(t, "Text", ab, leading(api.TStr, 2))
	check(t, "its cells", h.Arena.Len(2), 4)
	check(t, "Set", h.Set(tab, ab, whole(1)), api.OK)
	checkObject(t, "a node", h, tab, api.Object{Head: api.Head{Kind: api.TTable, Aux: 2, Slots: 3}, Aux: []int64{0, 1}, Slots: []api.Value{none, ab, whole(1)}})
	check(t, "its cells", h.Arena.Len(1), 10)
	checkGet(t, "Get", h, tab, ab, whole(1))
}

func TestP14_4SetGet(t *testing.T) {
	h := open(t, 2000)
	str, tab, fun, box, thread, proto := sample(t, h)
	keys := []api.Value{whole(1), whole(2), whole(3), whole(0), whole(-5), whole(1 << 40), float(1.5), float(-0.5), yes, {T: api.TBool}, {T: api.TNative, N: 3}, str, tab, fun, box, thread, proto}
	for i, k := range keys {
		check(t, "Set", h.Set(tab, k, whole(i)), api.OK)
		for j, k := range keys {
			want := none
			if j <= i {
				want = whole(j)
			}
			checkGet(t, "Get", h, tab, k, want)
		}
		checkRules(t, "Set", h)
	}
	checkGet(t, "a whole float", h, tab, float(2), whole(1))
	check(t, "Set by a whole float", h.Set(tab, float(2), str), api.OK)
	checkGet(t, "Get", h, tab, whole(2), str)
	n, err := h.Len(tab)
	check(t, "Len", n, 3)
	check(t, "Len", err, api.OK)
	check(t, "Set to nil", h.Set(tab, whole(2), none), api.OK)
	n, _ = h.Len(tab)
	check(t, "Len", n, 1)
	check(t, "Set of what is not there to nil", h.Set(tab, whole(77), none), api.OK)
	if l := keysOf(t, h, tab); len(l) != len(keys)-1 {
		t.Errorf("%d keys of %d are met: %v", len(l), len(keys)-1, l)
	}
	k, v, err := h.Next(tab, whole(2)) // it has its place still
	check(t, "Next", [2]api.Value{k, v}, [2]api.Value{whole(3), whole(2)})
	check(t, "Next", err, api.OK)
}

// Keys that may not be: nil, and what is no number. (A dead one is not there: TestP14_9Dead.)
func TestP14_4NoKeys(t *testing.T) {
	h := open(t, 100)
	tab := one(t)(h.Table())
	h.SetRoots(tab)
	check(t, "Set", h.Set(tab, yes, whole(1)), api.OK)
	before, _ := h.Object(tab)
	for _, k := range []api.Value{none, noNumber} {
		check(t, "Set by no key", h.Set(tab, k, whole(1)), api.ErrKey)
		check(t, "Set by no key to nil", h.Set(tab, k, none), api.ErrKey)
		checkGet(t, "Get by no key", h, tab, k, none)
	}
	for _, k := range []api.Value{noNumber, whole(1), {T: api.TBool}} {
		k, v, err := h.Next(tab, k)
		check(t, "Next of no key", [2]api.Value{k, v}, [2]api.Value{})
		check(t, "Next of no key", err, api.ErrKey)
	}
	k, v, err := h.Next(tab, none)
	check(t, "Next of nil", [2]api.Value{k, v}, [2]api.Value{yes, whole(1)})
	check(t, "Next of nil", err, api.OK)
	k, v, err = h.Next(tab, yes)
	check(t, "Next of the last one", [2]api.Value{k, v}, [2]api.Value{})
	check(t, "Next of the last one", err, api.OK)
	checkObject(t, "no keys", h, tab, before)
}

func TestP14_4Refused(t *testing.T) {
	h := open(t, 300)
	str, tab, fun, box, thread, proto := sample(t, h)
	check(t, "Set", h.Set(tab, str, fun), api.OK)
	before, _ := h.Object(tab)
	noTables := slices.Concat(never, plain, []api.Value{str, fun, box, thread, proto, leading(api.TTable, int(box.N)), leading(api.TTable, 7), leading(api.TProto, int(tab.N))})
	for _, x := range noTables {
		for _, k := range []api.Value{none, str, never[0]} {
			v, err := h.Get(x, k)
			checkRefused(t, "Get of no table", v, err, api.ErrType)
			check(t, "Set of no table", h.Set(x, k, k), api.ErrType)
			a, b, err := h.Next(x, k)
			check(t, "Next of no table", [2]api.Value{a, b}, [2]api.Value{})
			check(t, "Next of no table", err, api.ErrType)
			check(t, "SetMeta of no table", h.SetMeta(x, k, 9), api.ErrType)
		}
		n, err := h.Len(x)
		check(t, "Len of no table", n, 0)
		check(t, "Len of no table", err, api.ErrType)
		check(t, "Mark of no table", h.Mark(x), api.ErrType)
	}
	for _, x := range append(never, leading(api.TTable, int(box.N)), leading(api.TBox, 7)) {
		v, err := h.Get(tab, x)
		checkRefused(t, "Get by what is not there", v, err, api.ErrArg)
		check(t, "Set by what is not there", h.Set(tab, x, str), api.ErrArg)
		check(t, "Set to what is not there", h.Set(tab, str, x), api.ErrArg)
		check(t, "Set of nil to what is not there", h.Set(tab, none, x), api.ErrArg)
		a, b, err := h.Next(tab, x)
		check(t, "Next of what is not there", [2]api.Value{a, b}, [2]api.Value{})
		check(t, "Next of what is not there", err, api.ErrArg)
		check(t, "SetMeta to what is not there", h.SetMeta(tab, x, 0), api.ErrArg)
	}
	checkObject(t, "refused", h, tab, before)
	checkCounts(t, "refused", h, 5, 0, 0)
}

// A key's node is told by its hash: of a string its bytes, of another object its serial, not its handle.
func TestP14_4Hash(t *testing.T) {
	h := open(t, 3000)
	tab := one(t)(h.Table())
	h.SetRoots(tab)
	for range 20 {
		one(t)(h.Box(none))
		h.Major() // handles come again, so that they are unlike serials
	}
	var keys []api.Value
	hash := map[api.Value]uint32{}
	add := func(k api.Value, n uint32) {
		keys = append(keys, k)
		hash[k] = n
		h.Keep(k)
		check(t, "Set", h.Set(tab, k, yes), api.OK)
	}
	for i := range 5 {
		s := fmt.Sprint("key", i)
		add(one(t)(h.Text(s)), text.Hash(s))
		proto := one(t)(h.Proto(i))
		h.Keep(proto)
		makers := []func() (api.Value, api.Errno){
			h.Table, func() (api.Value, api.Errno) { return h.Box(none) }, func() (api.Value, api.Errno) { return h.Thread(1) },
			func() (api.Value, api.Errno) { return h.Proto(0) }, func() (api.Value, api.Errno) { return h.Func(proto) },
		}
		for _, make := range makers {
			k := one(t)(make())
			if head(t, h, k).Serial == int(k.N) {
				t.Fatal("a serial that is a handle tells nothing")
			}
			add(k, text.Mix(k.T, int64(head(t, h, k).Serial)))
		}
		for _, k := range []api.Value{whole(-i), float(float64(i) + 0.5), {T: api.TNative, N: int64(i)}} {
			add(k, text.Mix(k.T, k.N))
		}
	}
	o, _ := h.Object(tab)
	nodes := int(o.Aux[1])
	if o.Aux[0] != 0 || nodes < len(keys) {
		t.Fatalf("sizes: %v", o.Aux)
	}
	for i := range nodes {
		k := o.Slots[1+2*i]
		if k == none {
			continue
		}
		// From its first node on to its own none is free.
		for at := int(hash[k] % uint32(nodes)); at != i; at = (at + 1) % nodes {
			if o.Slots[1+2*at] == none {
				t.Errorf("%v is in the node %d, and the node %d is free: it was looked for from %d on", k, i, at, hash[k]%uint32(nodes))
			}
		}
	}
}

// Renewed tables keep their metatable, and have just the slots that they are asked for.
func TestP14_4Sizes(t *testing.T) {
	h := open(t, api.MaxCells)
	tab, meta := one(t)(h.Table()), one(t)(h.Table())
	h.SetRoots(tab)
	check(t, "SetMeta", h.SetMeta(tab, meta, api.WeakValues), api.OK)
	for i := 1; i <= 70; i++ {
		check(t, "Set", h.Set(tab, whole(i), whole(-i)), api.OK)
		o, _ := h.Object(tab)
		a := int(o.Aux[0])
		if o.Slots[0] != meta || o.Head.Weak != api.WeakValues || a < i || a >= 2*i && i > 1 || o.Aux[1] != 0 || len(o.Slots) != 1+a {
			t.Fatalf("behind %d: %v", i, o)
		}
	}
	for i := range 40 {
		check(t, "Set", h.Set(tab, float(float64(i)+0.5), whole(i)), api.OK)
		o, _ := h.Object(tab)
		if o.Slots[0] != meta || o.Aux[0] != 128 || len(o.Slots) != 1+128+2*int(o.Aux[1]) {
			t.Fatalf("behind %d: %v", i, o.Head)
		}
	}
	// Without values it becomes smaller, when it is renewed.
	for i := 1; i <= 70; i++ {
		check(t, "Set", h.Set(tab, whole(i), none), api.OK)
	}
	for i := range 40 {
		check(t, "Set", h.Set(tab, float(float64(i)+0.5), none), api.OK)
	}
	for i := range 25 {
		check(t, "Set", h.Set(tab, leading(api.TNative, i), yes), api.OK)
	}
	o, _ := h.Object(tab)
	if o.Aux[0] != 0 || o.Aux[1] != 32 || o.Slots[0] != meta {
		t.Errorf("sizes: %v", o.Aux)
	}
	live, _, _ := h.Free()
	check(t, "cells", live, 2*tableCells+32*nodeCells)
	checkRules(t, "sizes", h)
}

// ErrMany: a table that would have more than MaxParts slots; nothing is collected for it.
func TestP14_4Many(t *testing.T) {
	h := open(t, api.MaxCells)
	tab := one(t)(h.Table())
	h.SetRoots(tab)
	lost := one(t)(h.Box(none))
	for i := range 1024 {
		check(t, "Set", h.Set(tab, whole(-i), yes), api.OK)
	}
	before, _ := h.Object(tab)
	check(t, "nodes", before.Aux[1], 1024)
	check(t, "Set", h.Set(tab, yes, yes), api.ErrMany)
	checkObject(t, "ErrMany", h, tab, before)
	checkThere(t, "ErrMany", h, lost)
	checkCounts(t, "ErrMany", h, 2, 0, 0)
	for i := 1; i <= 1024; i++ {
		check(t, "Set", h.Set(tab, whole(1-i), none), api.OK)
	}
	for i := 1; i <= 2048; i++ {
		check(t, "Set", h.Set(tab, whole(i), yes), api.OK)
	}
	check(t, "Set of more than half of 4096", h.Set(tab, whole(2049), yes), api.ErrMany)
	for i := range 512 {
		check(t, "Set", h.Set(tab, whole(-i), yes), api.OK)
	}
	o, _ := h.Object(tab)
	check(t, "slots", len(o.Slots), 1+2048+1024)
	check(t, "Set of 513 others", h.Set(tab, yes, yes), api.ErrMany)
	check(t, "Set of a key that is there", h.Set(tab, whole(0), whole(3)), api.OK)
	n, _ := h.Len(tab)
	check(t, "Len", n, 2048)
	checkRules(t, "many", h)
}

// Each Set is told to the collector, the key, then the value.
func TestP14_4Write(t *testing.T) {
	h := open(t, 200)
	tab := one(t)(h.Table())
	h.SetRoots(tab)
	h.SetMode(api.ModeGen)
	k, x := one(t)(h.Box(none)), one(t)(h.Box(none))
	check(t, "Set", h.Set(tab, k, x), api.OK)
	checkLooks(t, "Set", h, tab, api.Grey, api.Touched1)
	checkList(t, "Again", h.View().Again, int(tab.N))
	checkRules(t, "Set", h)
	h.Young()
	checkThere(t, "Young", h, k, x)
	checkRules(t, "Young", h)
	h.Major()
	// A key alone, and a value alone.
	k = one(t)(h.Box(none))
	check(t, "Set", h.Set(tab, k, yes), api.OK)
	checkLooks(t, "Set of a new key", h, tab, api.Grey, api.Touched1)
	h.Major()
	check(t, "Set", h.Set(tab, k, one(t)(h.Text("new"))), api.OK)
	checkLooks(t, "Set of a new value", h, tab, api.Grey, api.Touched1)
	h.Major()
	meta := one(t)(h.Table())
	check(t, "SetMeta", h.SetMeta(tab, meta, 0), api.OK)
	checkLooks(t, "SetMeta", h, tab, api.Grey, api.Touched1)
	checkRules(t, "SetMeta", h)
	h.Young()
	checkThere(t, "Young", h, meta)
	// By steps it becomes grey again while marking goes on.
	h.SetMode(api.ModeInc)
	toPhase(t, h, api.PhaseMark)
	for len(h.View().Grey) > 0 {
		h.Step(1)
	}
	x = one(t)(h.Text("x"))
	check(t, "Set", h.Set(tab, x, x), api.OK)
	checkLooks(t, "Set", h, tab, api.Grey, api.New)
	toPhase(t, h, api.PhasePause)
	checkGet(t, "Get", h, tab, x, x)
	// What is refused is not told.
	toPhase(t, h, api.PhaseMark)
	for len(h.View().Grey) > 0 {
		h.Step(1)
	}
	x = one(t)(h.Text("y"))
	check(t, "Set", h.Set(tab, noNumber, x), api.ErrKey)
	check(t, "SetMeta", h.SetMeta(tab, x, 0), api.ErrArg)
	checkLooks(t, "refused", h, tab, api.Black, api.New)
}

func TestP14_4SetMeta(t *testing.T) {
	h := open(t, 300)
	str, tab, fun, box, thread, proto := sample(t, h)
	meta := one(t)(h.Table())
	h.Keep(meta)
	want := api.Object{Head: api.Head{Kind: api.TTable, Aux: 2, Slots: 3}, Aux: []int64{0, 1}, Slots: []api.Value{none, str, box}}
	check(t, "Set", h.Set(tab, str, box), api.OK)
	for _, m := range []api.Value{meta, none, tab} {
		for weak := api.WeakNone; weak <= api.WeakBoth; weak++ {
			check(t, "SetMeta", h.SetMeta(tab, m, weak), api.OK)
			want.Slots[0], want.Head.Weak = m, weak
			checkObject(t, "SetMeta", h, tab, want)
			v, err := h.Slot(tab, 0)
			checkAnswer(t, "the metatable", v, err, m, api.OK)
		}
		for _, weak := range []int{-1 << 62, -1, 4, 1 << 32} {
			check(t, "SetMeta with a wrong weak", h.SetMeta(tab, m, weak), api.ErrArg)
		}
	}
	for _, m := range append(slices.Clone(plain[1:]), dead, str, fun, box, thread, proto) {
		check(t, "SetMeta of no table", h.SetMeta(tab, m, 0), api.ErrArg)
	}
	checkObject(t, "refused", h, tab, want)
}

func TestP14_4Mark(t *testing.T) {
	h := open(t, 300)
	a, b := one(t)(h.Table()), one(t)(h.Table())
	h.SetRoots(b)
	check(t, "Mark", h.Mark(b), api.OK)
	check(t, "Mark", h.Mark(a), api.OK)
	check(t, "Fin", [2]int{head(t, h, a).Fin, head(t, h, b).Fin}, [2]int{2, 1})
	check(t, "Mark of one that is marked", h.Mark(a), api.ErrState)
	checkCounts(t, "Mark", h, 2, 2, 0)
	check(t, "Fin", head(t, h, a).Fin, 2)
	h.Major()
	v, is := h.Take()
	check(t, "Take", v, a)
	check(t, "Take", is, true)
	check(t, "Fin of one that is taken", head(t, h, a).Fin, 0)
	check(t, "Mark of one that was marked", h.Mark(a), api.OK)
	check(t, "Fin", head(t, h, a).Fin, 3)
	checkCounts(t, "Mark", h, 2, 3, 0)
	checkRules(t, "Mark", h)
}

// weakly makes a table that holds this weakly, with entries: an array's value, a pair whose key, one whose value, and one whose both nobody else holds.
func weakly(t *testing.T, h *heap.Heap, weak int) (tab api.Value, held api.Value, lost []api.Value) {
	t.Helper()
	tab = one(t)(h.Table())
	h.Keep(tab)
	check(t, "SetMeta", h.SetMeta(tab, none, weak), api.OK)
	held = one(t)(h.Box(none))
	h.Keep(held)
	for range 5 {
		v := one(t)(h.Box(none))
		h.Keep(v)
		lost = append(lost, v)
	}
	check(t, "Set", h.Set(tab, whole(1), lost[0]), api.OK)
	check(t, "Set", h.Set(tab, lost[1], held), api.OK)
	check(t, "Set", h.Set(tab, held, lost[2]), api.OK)
	check(t, "Set", h.Set(tab, lost[3], lost[4]), api.OK)
	check(t, "Set", h.Set(tab, yes, one(t)(h.Text("strings are not held weakly"))), api.OK)
	h.Release(5)
	return tab, held, lost
}

// What a weak table's entries are when they are collected: values are nil, keys are dead.
func TestP14_4Weak(t *testing.T) {
	for weak := api.WeakNone; weak <= api.WeakBoth; weak++ {
		for _, collect := range []func(h *heap.Heap){
			func(h *heap.Heap) { h.Major() },
			func(h *heap.Heap) { h.Step(1 << 30) },
			func(h *heap.Heap) { h.SetMode(api.ModeGen) },
		} {
			h := open(t, 400)
			tab, held, lost := weakly(t, h, weak)
			keys := weak == api.WeakKeys || weak == api.WeakBoth
			values := weak == api.WeakValues || weak == api.WeakBoth
			collect(h)
			str := one(t)(h.Text("strings are not held weakly"))
			want := map[api.Value]api.Value{yes: str}
			gone := map[api.Value]int{}
			if values {
				gone[lost[0]], gone[lost[2]] = 1, 1
			} else {
				want[whole(1)], want[held] = lost[0], lost[2]
			}
			if keys {
				gone[lost[1]] = 1
			} else {
				want[lost[1]] = held
			}
			if !keys && !values {
				want[lost[3]] = lost[4]
			}
			if keys {
				gone[lost[3]] = 1
			}
			if keys || values {
				gone[lost[4]] = 1
			}
			for _, v := range lost {
				if gone[v] == 1 {
					checkGone(t, "held weakly", h, v)
				} else {
					checkThere(t, "held", h, v)
				}
			}
			for k, v := range want {
				checkGet(t, fmt.Sprint("weak ", weak), h, tab, k, v)
			}
			if l := keysOf(t, h, tab); len(l) != len(want) {
				t.Errorf("weak %d: %v are met, want %v", weak, l, want)
			}
			checkRules(t, "weak", h)
			o, _ := h.Object(tab)
			deads := 0
			for _, v := range o.Slots {
				if v.T == api.TDead {
					deads++
				}
			}
			check(t, "dead keys", deads, map[bool]int{true: 2}[keys])
		}
	}
}
