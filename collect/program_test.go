package collect_test

import (
	"slices"
	"testing"

	"heirloom/api"
	"heirloom/collect"
	"heirloom/reach"
)

// A program keeps to it: what it makes is told by Birth and held by the roots, what it puts somewhere is told by Write and needed.
type program struct {
	maker
	t       *testing.T
	m       *collect.Mem
	c       *collect.Collector
	careful bool        // it holds nothing that only a weak table has
	fins    int         // how many it has marked
	marks   map[int]int // how often an object was marked
	came    map[int]int // how often it came to be pending
	ahead   api.View    // ahead of what is done now
	needed  map[int]int // by the roots and what was pending, ahead of what is done now
	cycle   bool        // one is under way that nothing has ended
	idle    []int       // what was not needed when it began, and is not by what is pending since
	late    []int       // what was born since it ended marking
}

func newProgram(t *testing.T, r maker, g api.Graph) *program {
	t.Helper()
	m, c := open(t, g)
	p := &program{maker: r, t: t, m: m, c: c, marks: map[int]int{}, came: map[int]int{}, careful: true}
	for i, thing := range g.Things {
		if thing.Fin > 0 {
			p.marks[i+1]++
		}
		p.fins = max(p.fins, thing.Fin)
	}
	p.look()
	return p
}

// graphOf makes a graph of a view: the handles are the places of the objects, and 1. What leads nowhere does so still.
func graphOf(v api.View, roots []api.Value) (api.Graph, map[int]int) {
	place := map[int]int{}
	for i, s := range v.Seen {
		place[s.H] = i + 1
	}
	other := func(l []api.Value) []api.Value {
		l = slices.Clone(l)
		for i, x := range l {
			if !slices.Contains(kinds, x.T) {
				continue
			}
			l[i].N = int64(place[int(x.N)])
		}
		return l
	}
	g := api.Graph{Roots: other(roots)}
	for _, s := range v.Seen {
		t := s.Thing
		t.Slots = other(t.Slots)
		g.Things = append(g.Things, t)
	}
	return g, place
}

// neededBy is what the roots, and some more, need in a view.
func neededBy(v api.View, roots []api.Value, more ...int) map[int]int {
	g, place := graphOf(v, roots)
	var places []int
	for _, h := range more {
		places = append(places, place[h])
	}
	l := map[int]int{}
	for i, is := range reach.Strong(g, places...) {
		if is {
			l[v.Seen[i].H] = 1
		}
	}
	return l
}

// look notes how things stand.
func (p *program) look() {
	p.ahead = p.c.View()
	p.needed = neededBy(p.ahead, p.m.Roots(), p.ahead.Pending...)
}

func (p *program) isNeeded(s api.Seen) bool { return p.needed[s.H] == 1 }

// some picks a needed object's value, or one that is no object's; one that is not careful finds also what weak tables have.
func (p *program) some() api.Value {
	var l []api.Seen
	for _, s := range p.ahead.Seen {
		if p.isNeeded(s) {
			l = append(l, s)
		}
	}
	return p.value(l)
}

// found picks a value from a slot of a needed object.
func (p *program) found() api.Value {
	var l []api.Value
	for _, s := range p.ahead.Seen {
		if p.isNeeded(s) {
			l = append(l, s.Thing.Slots...)
		}
	}
	if len(l) == 0 {
		return none
	}
	return l[p.Intn(len(l))]
}

func (p *program) make() {
	t := p.thing()
	for i := range t.Slots {
		if p.Intn(4) == 0 {
			t.Slots[i] = p.some()
		}
	}
	h := p.m.Add(t)
	p.c.Birth(h)
	p.m.SetRoots(append(p.m.Roots(), leading(t.Kind, h))...)
	for _, v := range t.Slots {
		p.c.Write(h, v)
	}
	if p.ahead.Phase == api.PhaseSweep {
		p.late = append(p.late, h)
	}
}

func (p *program) put() {
	if len(p.ahead.Seen) == 0 {
		return
	}
	to := p.ahead.Seen[p.Intn(len(p.ahead.Seen))]
	if n := len(to.Thing.Slots); n > 0 && (p.isNeeded(to) || p.Intn(4) == 0) {
		put(p.m, p.c, to.H, p.Intn(n), p.some())
	}
}

// hold has another root; now and then it has one less, or none at all.
func (p *program) hold() {
	l := p.m.Roots()
	switch {
	case p.Intn(30) == 0:
		l = nil
	case len(l) > 3 || len(l) > 0 && p.Intn(3) == 0:
		l = slices.Delete(l, 0, 1+p.Intn(len(l)))
	case p.careful:
		l = append(l, p.some())
	default:
		l = append(l, p.found())
	}
	p.m.SetRoots(l...)
}

func (p *program) markOne() {
	if len(p.ahead.Seen) == 0 {
		return
	}
	s := p.ahead.Seen[p.Intn(len(p.ahead.Seen))]
	if p.isNeeded(s) && s.Thing.Kind == api.TTable && s.Thing.Fin == 0 {
		p.fins++
		p.m.SetFin(s.H, p.fins)
		p.marks[s.H]++
	}
}

// finalise takes one that is pending; it may be held again.
func (p *program) finalise() {
	h, is := p.c.Take()
	if !is {
		return
	}
	if v := leading(p.m.Kind(h), h); p.Intn(2) == 0 {
		p.m.SetRoots(append(p.m.Roots(), v)...)
	}
}

// change does something that the program does itself.
func (p *program) change() string {
	names := []string{"make", "make", "put", "put", "put", "hold", "mark", "finalise"}
	calls := []func(){p.make, p.make, p.put, p.put, p.put, p.hold, p.markOne, p.finalise}
	i := p.Intn(len(calls))
	calls[i]()
	return names[i]
}

// unit does one unit, and notes what a cycle has to do.
func (p *program) unit() bool {
	if p.ahead.Phase == api.PhasePause {
		p.cycle, p.idle, p.late = true, nil, nil
		for _, s := range p.ahead.Seen {
			if !p.isNeeded(s) {
				p.idle = append(p.idle, s.H)
			}
		}
	}
	return p.c.Step(1)
}

// major forgets the cycle that was under way.
func (p *program) major(do func()) {
	p.cycle = false
	do()
}

// notePending notes what came to be pending, and what lives by that, or by that and the roots.
func (p *program) notePending(v api.View) {
	l := v.Pending[len(p.ahead.Pending):]
	for _, h := range l {
		p.came[h]++
	}
	if len(l) > 0 {
		by := neededBy(p.ahead, p.m.Roots(), v.Pending...)
		p.idle = slices.DeleteFunc(p.idle, func(h int) bool { return by[h] == 1 })
	}
}
