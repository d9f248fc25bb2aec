package reach

import "heirloom/api"

// walk finds what is needed; each object is gone through once.
type walk struct {
	things []api.Thing
	needed []bool
	// by a key's handle less 1: the values of pairs that nobody leads to till that key is needed. So no pair is asked twice, however many wait for one another.
	waiting [][]api.Value
	push    func(h int)
	pop     func() (int, bool)
}

func newWalk(things []api.Thing) *walk {
	w := &walk{things: things, needed: make([]bool, len(things)), waiting: make([][]api.Value, len(things))}
	w.push, w.pop = newStack()
	return w
}

// newStack answers how handles are put on a stack and taken from it.
func newStack() (push func(h int), pop func() (int, bool)) {
	var stack []int
	push = func(h int) { stack = append(stack, h) }
	pop = func() (int, bool) {
		if len(stack) == 0 {
			return 0, false
		}
		h := stack[len(stack)-1]
		stack = stack[:len(stack)-1]
		return h, true
	}
	return push, pop
}

func (w *walk) need(v api.Value) {
	if isObject(w.things, v) {
		w.needHandle(int(v.N))
	}
}

func (w *walk) needHandle(h int) {
	if h < 1 || h > len(w.things) || w.needed[h-1] {
		return
	}
	w.needed[h-1] = true
	w.push(h)
}

// needPair needs a pair's key and value, if its key is not held weakly, or is needed; else the value waits for it.
func (w *walk) needPair(key, value api.Value) {
	if heldWeakly(w.things, key) && !w.needed[key.N-1] {
		w.waiting[key.N-1] = append(w.waiting[key.N-1], value)
		return
	}
	w.need(key)
	w.need(value)
}

// goOn goes through what is needed till nothing more is found.
func (w *walk) goOn() {
	for h, more := w.pop(); more; h, more = w.pop() {
		each(w.waiting[h-1], w.need)
		w.goThrough(w.things[h-1])
	}
}

func (w *walk) goThrough(t api.Thing) {
	if !isWeak(t) {
		each(t.Slots, w.need)
		return
	}
	if len(t.Slots) > 0 {
		w.need(t.Slots[0])
	}
	switch t.Weak {
	case api.WeakKeys:
		eachPair(t, w.needPair)
	case api.WeakValues:
		eachPair(t, w.needKey)
	case api.WeakBoth:
		eachPair(t, w.needTexts)
	}
}

// needKey needs what a table holds whose values are weak.
func (w *walk) needKey(key, value api.Value) {
	w.need(key)
	w.needText(value)
}

// needTexts needs what a table holds whose keys and values are weak.
func (w *walk) needTexts(key, value api.Value) {
	w.needText(key)
	w.needText(value)
}

func (w *walk) needText(v api.Value) {
	if v.T == api.TStr {
		w.need(v)
	}
}

func each(l []api.Value, do func(api.Value)) {
	for _, v := range l {
		do(v)
	}
}

// eachPair takes a value without a key as a pair of nil and it.
func eachPair(t api.Thing, do func(key, value api.Value)) {
	for slot, key := range values(t) {
		do(key, t.Slots[slot])
	}
}
