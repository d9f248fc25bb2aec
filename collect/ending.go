package collect

import (
	"cmp"
	"slices"

	"heirloom/api"
)

// ending is the end of marking.
type ending struct {
	*Collector
	weak  []*weakOne
	known map[int]struct{} // the handles of the weak ones
}

// endMarking marks, all at once, what is still to be marked; then weak tables lose what is white, and that is of the other white.
func (c *Collector) endMarking() {
	e := &ending{Collector: c, known: make(map[int]struct{})}
	c.markRoots()
	c.goOn()
	e.finish()
	// What is finalised must not be found by way of a weak value any more.
	e.eachEntry(func(w *weakOne, x entry) {
		if w.holdsValue(x) && c.isLost(x.value) {
			c.objects.Clear(w.h, x.slot, false)
		}
	})
	c.markFinalised()
	c.goOn()
	e.finish()
	e.eachEntry(func(w *weakOne, x entry) {
		key := w.holdsKeys() && c.isLost(x.key)
		if key || w.holdsValue(x) && c.isLost(x.value) {
			c.objects.Clear(w.h, x.slot, key)
		}
	})
	for _, w := range e.weak {
		c.objects.SetColour(w.h, api.Black)
	}
	c.white = c.otherWhite()
}

// isLost tells whether a value is one that may be held weakly, and is white.
func (c *Collector) isLost(v api.Value) bool { return v.T != api.TStr && c.isWhite(v) }

// markFinalised makes the white objects that are marked for a finaliser pending: what was marked last comes first.
func (c *Collector) markFinalised() {
	type marked struct{ h, fin int }
	var l []marked
	c.each(func(h int) {
		if c.objects.Colour(h) != c.white {
			return
		}
		if fin := c.objects.Thing(h).Fin; fin > 0 {
			l = append(l, marked{h, fin})
		}
	})
	slices.SortFunc(l, func(a, b marked) int {
		return cmp.Or(cmp.Compare(b.fin, a.fin), cmp.Compare(b.h, a.h))
	})
	for _, m := range l {
		c.pending = append(c.pending, m.h)
		c.objects.SetFin(m.h, 0)
		c.markHandle(m.h)
	}
}

// eachEntry does something with each entry of each weak one, as it is now.
func (e *ending) eachEntry(do func(w *weakOne, x entry)) {
	for _, w := range e.weak {
		for _, x := range entriesOf(e.objects.Thing(w.h)) {
			do(w, x)
		}
	}
}

// finish goes through what was put off, and through what weak tables lead to, till there is no more.
func (e *ending) finish() {
	e.goThroughAgain()
	for e.markLed() {
		e.goOn()
		e.goThroughAgain()
	}
}

func (e *ending) goThroughAgain() {
	for len(e.again) > 0 {
		h := e.again[0]
		e.again = e.again[1:]
		if !e.isThere(h) {
			continue
		}
		if t := e.objects.Thing(h); isWeak(t) {
			e.addWeak(h, t)
			continue
		}
		e.goThrough(h)
		e.goOn()
	}
}

func (e *ending) addWeak(h int, t api.Thing) {
	if _, is := e.known[h]; is {
		return
	}
	e.known[h] = struct{}{}
	e.weak = append(e.weak, &weakOne{h: h, weak: t.Weak, waits: entriesOf(t)})
}

// markLed marks what the weak ones lead to by now, and tells whether there was something. What is marked once stays so: only the entries whose keys were white are asked again.
func (e *ending) markLed() bool {
	marks := false
	for _, w := range e.weak {
		w.waits = slices.DeleteFunc(w.waits, func(x entry) bool {
			if w.weak == api.WeakKeys && e.isLost(x.key) {
				return false
			}
			if !w.holdsKeys() || x.key.T == api.TStr {
				marks = e.mark(x.key) || marks
			}
			if !w.holdsValue(x) || x.value.T == api.TStr {
				marks = e.mark(x.value) || marks
			}
			return true
		})
	}
	return marks
}
