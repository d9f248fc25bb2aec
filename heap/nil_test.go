package heap_test

import (
	"testing"

	"heirloom/api"
	"heirloom/heap"
)

// A heap that no call made: ErrNil, or nothing.
func TestP14_1Nil(t *testing.T) {
	for _, h := range []*heap.Heap{nil, {}} {
		for _, v := range append(append([]api.Value{leading(api.TTable, 1), leading(api.TThread, 1), leading(api.TStr, 1)}, plain...), never...) {
			nilAnswers(t, h, v)
		}
		h.Keep(yes, yes)
		h.Release(1)
		h.Release(9)
		h.SetRoots(yes)
		h.Major()
		h.SetMode(api.ModeGen)
		checkList(t, "Roots", h.Roots())
		check(t, "Step", h.Step(9), false)
		check(t, "Young", h.Young(), false)
		if v, is := h.Take(); v != none || is {
			t.Errorf("Take: %v, %v", v, is)
		}
		if !same([]any{h.View()}, []any{api.View{}}) {
			t.Errorf("View: %v", h.View())
		}
		check(t, "Compact", h.Compact(), 0)
		checkFree(t, "nil", h, 0, 0, 0)
		checkCounts(t, "nil", h, 0, 0, 0)
	}
}

func nilAnswers(t *testing.T, h *heap.Heap, x api.Value) {
	t.Helper()
	long := string(make([]byte, api.MaxText+1))
	for name, call := range map[string]func() (api.Value, api.Errno){
		"Text":          func() (api.Value, api.Errno) { return h.Text("") },
		"Text too long": func() (api.Value, api.Errno) { return h.Text(long) },
		"Table":         h.Table,
		"Proto":         func() (api.Value, api.Errno) { return h.Proto(-1, x) },
		"Func":          func() (api.Value, api.Errno) { return h.Func(x, x) },
		"Box":           func() (api.Value, api.Errno) { return h.Box(x) },
		"Thread":        func() (api.Value, api.Errno) { return h.Thread(-1) },
		"Slot":          func() (api.Value, api.Errno) { return h.Slot(x, 0) },
		"Get":           func() (api.Value, api.Errno) { return h.Get(x, x) },
	} {
		v, err := call()
		checkRefused(t, name, v, err, api.ErrNil)
	}
	for name, err := range map[string]api.Errno{
		"Grow": h.Grow(x, 1), "SetSlot": h.SetSlot(x, 0, x), "Set": h.Set(x, x, x), "SetMeta": h.SetMeta(x, x, 0), "Mark": h.Mark(x),
	} {
		check(t, name, err, api.ErrNil)
	}
	n, err := h.Len(x)
	check(t, "Len", n, 0)
	check(t, "Len", err, api.ErrNil)
	k, v, err := h.Next(x, x)
	check(t, "Next", [2]api.Value{k, v}, [2]api.Value{})
	check(t, "Next", err, api.ErrNil)
	checkGone(t, "Object", h, x)
	if s, is := h.Bytes(x); s != "" || is {
		t.Errorf("Bytes: %q, %v", s, is)
	}
}
