package heap_test

import (
	"slices"
	"testing"

	"heirloom/api"
	"heirloom/heap"
)

// handDead hands a dead key to each call that is handed values that must be there, at each place, and asks for ErrArg, and that nothing has changed.
func handDead(t *testing.T, h *heap.Heap, dead api.Value) {
	t.Helper()
	str, tab, fun, box, thread, proto := sample(t, h)
	check(t, "Set", h.Set(tab, str, box), api.OK)
	check(t, "Set", h.Set(tab, whole(1), str), api.OK)
	many := slices.Repeat([]api.Value{box}, api.MaxParts)
	before := seenOf(h)
	for name, call := range map[string]func() (api.Value, api.Errno){
		"Box":                         func() (api.Value, api.Errno) { return h.Box(dead) },
		"Proto":                       func() (api.Value, api.Errno) { return h.Proto(0, dead) },
		"Proto, all":                  func() (api.Value, api.Errno) { return h.Proto(0, dead, dead) },
		"Proto, behind others":        func() (api.Value, api.Errno) { return h.Proto(0, str, none, dead) },
		"Proto, too many":             func() (api.Value, api.Errno) { return h.Proto(0, append(slices.Clone(many), dead)...) },
		"Func for a prototype":        func() (api.Value, api.Errno) { return h.Func(dead) },
		"Func for a prototype, boxes": func() (api.Value, api.Errno) { return h.Func(dead, box) },
		"Func for a box":              func() (api.Value, api.Errno) { return h.Func(proto, dead) },
		"Func behind a box":           func() (api.Value, api.Errno) { return h.Func(proto, box, dead) },
		"Func behind no box":          func() (api.Value, api.Errno) { return h.Func(box, tab, dead) },
		"Func, too many":              func() (api.Value, api.Errno) { return h.Func(proto, append(slices.Clone(many), dead)...) },
		"Get":                         func() (api.Value, api.Errno) { return h.Get(tab, dead) },
	} {
		v, err := call()
		checkRefused(t, name, v, err, api.ErrArg)
	}
	for name, err := range map[string]api.Errno{
		"SetSlot of a box":                 h.SetSlot(box, 0, dead),
		"SetSlot of a thread":              h.SetSlot(thread, 1, dead),
		"SetSlot of a constant":            h.SetSlot(proto, 0, dead),
		"SetSlot of a function's box":      h.SetSlot(fun, 1, dead),
		"SetSlot of a metatable":           h.SetSlot(tab, 0, dead),
		"SetSlot of an array":              h.SetSlot(tab, 1, dead),
		"SetSlot of a pair's key":          h.SetSlot(tab, 2, dead), // where one may lie, the collector puts it
		"SetSlot of a pair's value":        h.SetSlot(tab, 3, dead),
		"Set by a key":                     h.Set(tab, dead, whole(1)),
		"Set by a key to nil":              h.Set(tab, dead, none),
		"Set to it":                        h.Set(tab, str, dead),
		"Set to it of a new key":           h.Set(tab, fun, dead),
		"Set to it of no key":              h.Set(tab, none, dead),
		"SetMeta":                          h.SetMeta(tab, dead, api.WeakNone),
		"SetMeta with something held weak": h.SetMeta(tab, dead, api.WeakBoth),
	} {
		check(t, name, err, api.ErrArg)
	}
	k, v, err := h.Next(tab, dead)
	check(t, "Next", [2]api.Value{k, v}, [2]api.Value{})
	check(t, "Next", err, api.ErrArg)
	if !same(seenOf(h), before) {
		t.Errorf("what was refused has changed something: %v, and it was %v", seenOf(h), before)
	}
	checkRules(t, "refused", h)
}

// seenOf is all that is to be seen of a heap.
func seenOf(h *heap.Heap) []any {
	live, top, gap := h.Free()
	made, marked, emergencies := h.Counts()
	return []any{h.View(), h.Roots(), live, top, gap, made, marked, emergencies}
}

// TestP14_9Dead: a key whose object is gone is no value that is there, whether its number is an object's now, or not, and whether it is held or not.
func TestP14_9Dead(t *testing.T) {
	for _, n := range []int{1, 2, 3, 6, 7, 50, api.MaxCells} {
		for _, held := range []bool{false, true} {
			h := open(t, 200)
			if held {
				h.Keep(leading(api.TDead, n))
				h.SetRoots(leading(api.TDead, n))
			}
			handDead(t, h, leading(api.TDead, n))
			h.SetMode(api.ModeGen) // what is kept is Old and Black: a write would be seen
			handDead(t, h, leading(api.TDead, n))
		}
	}
}

// TestP14_9DeadRead: one that was read off a weak table is none either, and does not hinder the table.
func TestP14_9DeadRead(t *testing.T) {
	for _, weak := range []int{api.WeakKeys, api.WeakBoth} {
		h := open(t, 500)
		tab, _, _ := weakly(t, h, weak)
		h.Major()
		o, _ := h.Object(tab)
		met := keysOf(t, h, tab)
		for i, x := range o.Slots {
			if x.T != api.TDead {
				continue
			}
			got, err := h.Slot(tab, i)
			checkAnswer(t, "Slot", got, err, x, api.OK)
			handDead(t, h, got)
			check(t, "SetSlot where it lies", h.SetSlot(tab, i, got), api.ErrArg)
			check(t, "Set by it", h.Set(tab, got, none), api.ErrArg)
		}
		if now, _ := h.Object(tab); !slices.Equal(now.Slots, o.Slots) {
			t.Errorf("slots: %v, and they were %v", now.Slots, o.Slots)
		}
		checkList(t, "keys", keysOf(t, h, tab), met...)
		for i := range 8 {
			check(t, "Set", h.Set(tab, float(float64(i)+0.5), whole(i)), api.OK)
		}
		now, _ := h.Object(tab)
		if slices.ContainsFunc(now.Slots, func(v api.Value) bool { return v.T == api.TDead }) {
			t.Errorf("renewed, it has them still: %v", now.Slots)
		}
		checkRules(t, "renewed", h)
	}
}

// What is told first: a wrong object ahead of it, and it ahead of all else; no room is looked for.
func TestP14_9DeadFirst(t *testing.T) {
	h := open(t, 20)
	tab, box := one(t)(h.Table()), one(t)(h.Box(none))
	h.SetRoots(tab, box)
	fill(t, h, 0)
	before := seenOf(h)
	for _, v := range slices.Concat(never, plain, []api.Value{leading(api.TBox, int(tab.N))}) {
		check(t, "SetSlot of no object", h.SetSlot(v, 0, dead), api.ErrType)
	}
	for _, v := range slices.Concat(never, plain, []api.Value{box}) {
		got, err := h.Get(v, dead)
		checkRefused(t, "Get of no table", got, err, api.ErrType)
		check(t, "Set of no table", h.Set(v, dead, dead), api.ErrType)
		check(t, "SetMeta of no table", h.SetMeta(v, dead, 0), api.ErrType)
		_, _, err = h.Next(v, dead)
		check(t, "Next of no table", err, api.ErrType)
	}
	check(t, "Set that has no room", h.Set(tab, yes, dead), api.ErrArg)
	check(t, "Set by no key", h.Set(tab, noNumber, dead), api.ErrArg)
	v, err := h.Box(dead)
	checkRefused(t, "Box that has no room", v, err, api.ErrArg)
	v, err = h.Proto(0, dead)
	checkRefused(t, "Proto that has no room", v, err, api.ErrArg)
	if !same(seenOf(h), before) {
		t.Errorf("what was refused has changed something: %v, and it was %v", seenOf(h), before)
	}
}
