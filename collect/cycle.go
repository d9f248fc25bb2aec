package collect

import (
	"slices"

	"heirloom/ages"
	"heirloom/api"
)

// renew makes an object as one that was just made.
func (c *Collector) renew(h int) { c.paint(h, c.white, api.New) }

// whiten forgets all that was marked.
func (c *Collector) whiten() {
	c.phase, c.grey, c.again, c.unswept = api.PhasePause, nil, nil, nil
	c.each(c.renew)
}

// unit does the smallest part of a cycle.
func (c *Collector) unit() {
	switch {
	case c.phase == api.PhasePause:
		c.markRoots()
		c.phase = api.PhaseMark
	case c.phase == api.PhaseMark && len(c.grey) > 0:
		c.goThroughLast()
	case c.phase == api.PhaseMark:
		c.endMarking()
		c.phase, c.unswept = api.PhaseSweep, slices.Clone(c.objects.Order())
	case len(c.unswept) > 0:
		h := c.unswept[0]
		c.unswept = c.unswept[1:]
		c.sweep(h, c.renew)
	default:
		c.phase, c.unswept = api.PhasePause, nil
	}
}

// sweep drops an object that nobody needs; with one that lives it does what is told.
func (c *Collector) sweep(h int, lives func(h int)) {
	switch {
	case !c.isThere(h):
	case c.objects.Colour(h) == c.otherWhite():
		c.objects.Drop(h)
	default:
		lives(h)
	}
}

// leadsToYoung tells whether an old object, into which nothing was written since, may lead to one that is young still.
func (c *Collector) leadsToYoung(h int) bool {
	age := c.objects.Age(h)
	return c.objects.Kind(h) != api.TStr && (age == api.Old1 || age == api.Touched2)
}

// growOlder is what a young collection does with an object that lives.
func (c *Collector) growOlder(h int) {
	age := ages.Next(c.objects.Age(h))
	colour := api.Black
	if age == api.Survival {
		colour = c.white
	}
	c.paint(h, colour, age)
}
