package heap_test

import (
	"fmt"
	"math/rand"
	"slices"
	"strings"
	"testing"

	"heirloom/api"
	"heirloom/heap"
)

// A caller calls a heap and a model alike, with anything, and holds what they answer against each other.
type caller struct {
	*rand.Rand
	t    *testing.T
	h    *heap.Heap
	m    *model
	past []api.Value // what was there at some time
	done []string
}

func (c *caller) object(kind int) api.Value {
	var l []api.Value
	for h, o := range c.m.ones {
		if kind == 0 || o.Head.Kind == kind {
			l = append(l, leading(o.Head.Kind, h))
		}
	}
	if len(l) == 0 {
		return none
	}
	slices.SortFunc(l, func(a, b api.Value) int { return int(a.N - b.N) })
	return l[c.Intn(len(l))]
}

// some picks a value of the kind that a call asks for as a rule, now and then any other.
func (c *caller) some(kind int) api.Value {
	switch n := c.Intn(20); {
	case n == 0:
		return never[c.Intn(len(never))]
	case n == 1:
		return plain[c.Intn(len(plain))]
	case n == 2 && len(c.past) > 0:
		return c.past[c.Intn(len(c.past))]
	case n == 3:
		return leading(c.Intn(13)-1, c.Intn(20)-2)
	case n == 4:
		return c.object(0)
	case n == 5:
		return leading(api.TDead, 1+c.Intn(20))
	}
	if kind < 0 { // any value
		switch c.Intn(5) {
		case 0:
			return plain[c.Intn(len(plain))]
		case 1:
			return whole(c.Intn(12) - 3)
		case 2:
			return c.object(api.TStr)
		}
		return c.object(0)
	}
	return c.object(kind)
}

func (c *caller) list(kind, most int) []api.Value {
	l := make([]api.Value, c.Intn(most+1))
	for i := range l {
		l[i] = c.some(kind)
	}
	return l
}

func (c *caller) bytes() string {
	n := c.Intn(20)
	if c.Intn(30) == 0 {
		n = []int{api.MaxText, api.MaxText + 1}[c.Intn(2)]
	}
	return strings.Repeat(string(rune('a'+c.Intn(4))), n%10) + strings.Repeat("z", n-n%10)
}

func (c *caller) count(most int) int {
	if c.Intn(10) == 0 {
		return []int{-1, 0, api.MaxParts, api.MaxParts + 1}[c.Intn(4)]
	}
	return c.Intn(most)
}

// call does one call with both.
func (c *caller) call(name string, args any, do func(x calls) []any) {
	c.done = append(c.done, fmt.Sprint(name, args))
	got, want := do(c.h), do(c.m)
	if !same(got, want) {
		c.fail("answers %v, want %v", got, want)
	}
}

func (c *caller) fail(form string, l ...any) {
	c.t.Helper()
	c.t.Fatalf("%s: "+form, append([]any{strings.Join(c.done, "\n")}, l...)...)
}

func (c *caller) makes() {
	switch c.Intn(7) {
	case 0, 1:
		s := c.bytes()
		c.call("Text", len(s), func(x calls) []any { v, err := x.Text(s); return []any{v, err} })
	case 2:
		c.call("Table", "", func(x calls) []any { v, err := x.Table(); return []any{v, err} })
	case 3:
		n, l := c.count(50), c.list(-1, 4)
		c.call("Proto", []any{n, l}, func(x calls) []any { v, err := x.Proto(n, l...); return []any{v, err} })
	case 4:
		p, l := c.some(api.TProto), c.list(api.TBox, 3)
		c.call("Func", []any{p, l}, func(x calls) []any { v, err := x.Func(p, l...); return []any{v, err} })
	case 5:
		v := c.some(-1)
		c.call("Box", v, func(x calls) []any { v, err := x.Box(v); return []any{v, err} })
	case 6:
		n := c.count(6)
		c.call("Thread", n, func(x calls) []any { v, err := x.Thread(n); return []any{v, err} })
	}
}

func (c *caller) reads() {
	v, k, i := c.some(0), c.some(-1), c.Intn(8)-1
	tab := c.some(api.TTable)
	switch c.Intn(6) {
	case 0:
		c.call("Object", v, func(x calls) []any { o, is := x.Object(v); return []any{o, is} })
	case 1:
		v := c.some(api.TStr)
		c.call("Bytes", v, func(x calls) []any { s, is := x.Bytes(v); return []any{s, is} })
	case 2:
		c.call("Slot", []any{v, i}, func(x calls) []any { r, err := x.Slot(v, i); return []any{r, err} })
	case 3:
		c.call("Get", []any{tab, k}, func(x calls) []any { r, err := x.Get(tab, k); return []any{r, err} })
	case 4:
		c.call("Len", tab, func(x calls) []any { n, err := x.Len(tab); return []any{n, err} })
	case 5:
		c.call("Next", []any{tab, k}, func(x calls) []any { a, b, err := x.Next(tab, k); return []any{a, b, err} })
	}
}

func (c *caller) writes() {
	tab, k, x := c.some(api.TTable), c.some(-1), c.some(-1)
	switch c.Intn(10) {
	case 0, 1:
		v, i := c.some(0), c.Intn(6)-1
		if v.T == api.TTable && i >= 0 && c.Intn(4) > 0 { // else layouts are broken too often to tell anything
			return
		}
		c.call("SetSlot", []any{v, i, x}, func(y calls) []any { return []any{y.SetSlot(v, i, x)} })
	case 2:
		m, weak := c.some(api.TTable), c.Intn(6)-1
		if c.Intn(3) == 0 {
			m = none
		}
		c.call("SetMeta", []any{tab, m, weak}, func(y calls) []any { return []any{y.SetMeta(tab, m, weak)} })
	case 3:
		c.call("Mark", tab, func(y calls) []any { return []any{y.Mark(tab)} })
	case 4:
		v, n := c.some(api.TThread), c.count(20)
		c.call("Grow", []any{v, n}, func(y calls) []any { return []any{y.Grow(v, n)} })
	default:
		if c.Intn(5) == 0 {
			x = none
		}
		c.call("Set", []any{tab, k, x}, func(y calls) []any { return []any{y.Set(tab, k, x)} })
	}
}

func (c *caller) holds() {
	switch c.Intn(4) {
	case 0:
		l := c.list(-1, 3)
		c.call("Keep", l, func(x calls) []any { x.Keep(l...); return nil })
	case 1:
		n := c.Intn(5) - 1
		c.call("Release", n, func(x calls) []any { x.Release(n); return nil })
	case 2:
		l := c.list(-1, 6)
		c.call("SetRoots", l, func(x calls) []any { x.SetRoots(l...); return nil })
	case 3:
		c.call("Take", "", func(x calls) []any { v, is := x.Take(); return []any{v, is} })
	}
}

func (c *caller) collects() {
	switch k := c.Intn(20); {
	case k < 11:
		n := k * c.Intn(3)
		c.call("Step", n, func(x calls) []any { return []any{x.Step(n)} })
	case k < 15:
		c.call("Young", "", func(x calls) []any { return []any{x.Young()} })
	case k < 16:
		c.call("Major", "", func(x calls) []any { x.Major(); return nil })
	case k < 18:
		n := c.Intn(4) - 1
		c.call("SetMode", n, func(x calls) []any { x.SetMode(n); return nil })
	default:
		c.call("Compact", "", func(x calls) []any { return []any{x.Compact()} })
	}
}

// looks holds all that is to be seen of both against each other.
func (c *caller) looks() {
	look := func(x calls) []any {
		a, b, d := x.Free()
		e, f, g := x.Counts()
		v := x.View()
		l := []any{v, x.Roots(), a, b, d, e, f, g}
		for _, s := range v.Seen {
			o, is := x.Object(leading(s.Thing.Kind, s.H))
			bytes, is2 := x.Bytes(leading(s.Thing.Kind, s.H))
			l = append(l, o, is, bytes, is2)
		}
		return l
	}
	got, want := look(c.h), look(c.m)
	if !same(got, want) {
		c.fail("is %v, want %v", got, want)
	}
	for h, o := range c.m.ones {
		if n := c.h.Addr(h); n != c.m.a.Addr(h) {
			c.fail("%d %v is at %d, want %d", h, o, n, c.m.a.Addr(h))
		}
	}
}

func (c *caller) remember() {
	for range 3 {
		if v := c.object(0); v != none {
			c.past = append(c.past, v)
		}
	}
	if len(c.past) > 30 {
		c.past = c.past[10:]
	}
}

// TestP14Model: whatever is called with whatever, a heap does what the chapter's words say.
func TestP14Model(t *testing.T) {
	errors := 0
	for seed := range 400 {
		r := rand.New(rand.NewSource(int64(seed)))
		size := []int{1 + r.Intn(30), 30 + r.Intn(100), 100 + r.Intn(400), 1200}[r.Intn(4)]
		c := &caller{Rand: r, t: t, h: open(t, size), m: newModel(size)}
		do := []func(){c.makes, c.makes, c.reads, c.writes, c.writes, c.holds, c.collects}
		for range 200 {
			do[r.Intn(len(do))]()
			c.looks()
			c.remember()
		}
		_, _, emergencies := c.h.Counts()
		errors += emergencies
	}
	if errors < 600 {
		t.Errorf("%d emergencies alone", errors)
	}
}
