package collect

import (
	"slices"

	"heirloom/api"
)

// each does something with each object, in order. The list is its own, as what is done may drop some.
func (c *Collector) each(do func(h int)) {
	for _, h := range slices.Clone(c.objects.Order()) {
		do(h)
	}
}

func (c *Collector) isThere(h int) bool { return c.objects.Kind(h) != 0 }

// leads tells whether a value leads to an object.
func (c *Collector) leads(v api.Value) bool {
	return v.T >= api.TStr && v.T <= api.TProto && c.objects.Kind(int(v.N)) == v.T
}

// isWhite tells whether a value leads to an object of the current white.
func (c *Collector) isWhite(v api.Value) bool {
	return c.leads(v) && c.objects.Colour(int(v.N)) == c.white
}

func (c *Collector) otherWhite() int { return api.White0 + api.White1 - c.white }

func (c *Collector) paint(h, colour, age int) {
	c.objects.SetColour(h, colour)
	c.objects.SetAge(h, age)
}

func (c *Collector) toGrey(h int) {
	c.objects.SetColour(h, api.Grey)
	c.grey = append(c.grey, h)
}

// mark tells whether there was something to be marked.
func (c *Collector) mark(v api.Value) bool {
	if !c.isWhite(v) {
		return false
	}
	if v.T == api.TStr {
		// It leads nowhere, so nobody has to go through it.
		c.objects.SetColour(int(v.N), api.Black)
	} else {
		c.toGrey(int(v.N))
	}
	return true
}

func (c *Collector) markAll(l []api.Value) {
	for _, v := range l {
		c.mark(v)
	}
}

// markHandle marks an object, if it is there.
func (c *Collector) markHandle(h int) {
	c.mark(api.Value{T: c.objects.Kind(h), N: int64(h)})
}

// markRoots marks what the program holds, and what it is still to finalise.
func (c *Collector) markRoots() {
	c.markAll(c.objects.Roots())
	for _, h := range c.pending {
		c.markHandle(h)
	}
}

// goOn goes through what is grey till nothing is.
func (c *Collector) goOn() {
	for len(c.grey) > 0 {
		c.goThroughLast()
	}
}

func (c *Collector) goThroughLast() {
	last := len(c.grey) - 1
	h := c.grey[last]
	c.grey = c.grey[:last]
	if c.isThere(h) {
		c.goThrough(h)
	}
}

// goThrough puts a table that holds weakly off: what it leads to hangs on what else is needed.
func (c *Collector) goThrough(h int) {
	t := c.objects.Thing(h)
	if !isWeak(t) {
		c.objects.SetColour(h, api.Black)
		c.markAll(t.Slots)
		return
	}
	if len(t.Slots) > 0 {
		c.mark(t.Slots[0])
	}
	c.again = append(c.again, h)
}
