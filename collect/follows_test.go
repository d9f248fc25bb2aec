package collect_test

import (
	"slices"
	"testing"

	"heirloom/ages"
	"heirloom/api"
	"heirloom/collect"
	"heirloom/reach"
)

// checkKept: P13.7: what was needed ahead of a call of the collector is there, as it was, but for what weak tables had that was not.
func (p *program) checkKept(v api.View, done string) {
	p.t.Helper()
	now := map[int]api.Thing{}
	for _, s := range v.Seen {
		now[s.H] = s.Thing
	}
	for _, s := range p.ahead.Seen {
		if !p.isNeeded(s) {
			continue
		}
		t, is := now[s.H]
		if !is {
			p.t.Fatalf("%s: %d was needed, and is gone: %v", done, s.H, p.ahead)
		}
		if t.Kind != s.Thing.Kind || t.Weak != s.Thing.Weak || t.Array != s.Thing.Array || t.Fin != s.Thing.Fin || len(t.Slots) != len(s.Thing.Slots) {
			p.t.Fatalf("%s: %d is %v, and was %v", done, s.H, t, s.Thing)
		}
		for slot, x := range s.Thing.Slots {
			if t.Slots[slot] != x && !p.mayGo(s.Thing, slot) {
				p.t.Fatalf("%s: the slot %d of %d is %v, and was %v", done, slot, s.H, t.Slots[slot], x)
			}
		}
	}
}

// mayGo tells whether a slot's value may be cleared: a weak table has it, and it, or its key or the value of that key, was not needed.
func (p *program) mayGo(t api.Thing, slot int) bool {
	key, value := keyOf(t, slot)
	idle := func(slot int) bool {
		x := t.Slots[slot]
		return slices.Contains(kinds, x.T) && p.needed[int(x.N)] == 0
	}
	switch modelWeak(t) {
	case api.WeakNone:
		return false
	case api.WeakValues:
		return value && idle(slot)
	default:
		return slot > 0 && idle(slot) || key >= 0 && idle(key)
	}
}

// checkCycle: P13.9.
func (p *program) checkCycle(ended bool) {
	p.t.Helper()
	if !ended || !p.cycle {
		return
	}
	for _, h := range p.idle {
		if p.m.Kind(h) != 0 {
			p.t.Fatalf("%d was not needed when the cycle began, and is there: %v", h, p.c.View())
		}
	}
	for _, h := range p.late {
		if p.m.Kind(h) == 0 {
			p.t.Fatalf("%d was born when marking had ended, and is gone", h)
		}
	}
	p.cycle = false
}

// youngNeeds: P13.10: which objects are to be there behind a young collection.
func (p *program) youngNeeds() []int {
	hold := slices.Clone(p.ahead.Pending)
	for _, s := range p.ahead.Seen {
		if ages.Old(s.Age) {
			hold = append(hold, s.H)
		}
	}
	first := neededBy(p.ahead, p.m.Roots(), hold...)
	for _, s := range p.ahead.Seen {
		if s.Thing.Fin > 0 && first[s.H] == 0 {
			hold = append(hold, s.H)
		}
	}
	var l []int
	live := neededBy(p.ahead, p.m.Roots(), hold...)
	for _, s := range p.ahead.Seen {
		if live[s.H] == 1 {
			l = append(l, s.H)
		}
	}
	return l
}

// checkMajor: P13.11: what is there behind Major is what reach.Collect finds, what was pending being a root.
func (p *program) checkMajor() {
	p.t.Helper()
	roots := p.m.Roots()
	for _, h := range p.ahead.Pending {
		roots = append(roots, leading(p.m.Kind(h), h))
	}
	g, place := graphOf(p.ahead, roots)
	f := reach.Collect(g)
	pending := slices.Clone(p.ahead.Pending)
	for _, i := range f.Pending {
		pending = append(pending, p.ahead.Seen[i-1].H)
	}
	v := p.c.View()
	checkList(p.t, "Pending", v.Pending, pending...)
	var want []api.Seen
	for i, s := range p.ahead.Seen {
		if !f.Live[i] {
			continue
		}
		if slices.Contains(f.Pending, i+1) {
			s.Thing.Fin = 0
		}
		s.Thing.Slots = slices.Clone(s.Thing.Slots)
		for _, e := range f.Cleared {
			if e.H == i+1 {
				clearEntry(s.Thing, e.Slot, func(x api.Value) bool { return slices.Contains(kinds, x.T) && !f.Live[place[int(x.N)]-1] })
			}
		}
		want = append(want, s)
	}
	for i := range v.Seen {
		v.Seen[i].Colour, v.Seen[i].Age = 0, 0
	}
	for i := range want {
		want[i].Colour, want[i].Age = 0, 0
	}
	if !same(api.View{Seen: v.Seen}, api.View{Seen: want}) {
		p.t.Fatalf("Major of %v: %v, want %v", p.ahead, v.Seen, want)
	}
}

// clearEntry clears a value of a weak table, and its key, if that is held weakly and gone.
func clearEntry(t api.Thing, slot int, gone func(api.Value) bool) {
	t.Slots[slot] = none
	if key, _ := keyOf(t, slot); key >= 0 && t.Weak != api.WeakValues && t.Slots[key].T != api.TStr && gone(t.Slots[key]) {
		t.Slots[key].T = api.TDead
	}
}

// collect does one of the collector's calls, and asks what follows.
func (p *program) collect() string {
	p.t.Helper()
	mode := p.ahead.Mode
	switch n := p.Intn(20); {
	case n == 0:
		p.major(p.c.Major)
		p.checkMajor()
		return "Major"
	case n == 1:
		p.major(func() { p.c.SetMode(1 - mode) })
		if mode == api.ModeInc {
			p.checkMajor()
		}
		return "SetMode"
	case mode == api.ModeGen:
		want := p.youngNeeds()
		if p.c.Young() {
			p.checkMajor()
		} else {
			checkList(p.t, "what is there behind Young", p.m.Order(), want...)
		}
		return "Young"
	default:
		p.checkCycle(p.unit())
		return "Step"
	}
}

// run does many things one behind the other.
func (p *program) run(times int) {
	p.t.Helper()
	p.checkView(p.c.View(), "the start")
	for range times {
		if p.Intn(2) == 0 {
			done := p.change()
			p.checkView(p.c.View(), done)
		} else {
			done := p.collect()
			v := p.c.View()
			p.checkKept(v, done)
			p.notePending(v)
			p.checkView(v, done)
		}
		p.look()
	}
}

// checkView: P13.8, and P13.12: no object is pending twice, or more often than it was marked.
func (p *program) checkView(v api.View, done string) {
	p.t.Helper()
	if l := ages.Audit(v); len(l) > 0 {
		p.t.Fatalf("behind %s: %v break the rules in %v", done, l, v)
	}
	times := map[int]int{}
	for _, h := range v.Pending {
		times[h]++
		if times[h] > 1 || p.came[h] > p.marks[h] {
			p.t.Fatalf("behind %s: %d is pending too often: %v", done, h, v.Pending)
		}
	}
	if p.t.Failed() {
		p.t.FailNow()
	}
}

// end lets all go, and finalises till nothing is there.
func (p *program) end() {
	p.t.Helper()
	p.m.SetRoots()
	for range 1000 {
		p.look()
		p.c.Major()
		p.notePending(p.c.View())
		if _, is := p.c.Take(); !is {
			break
		}
	}
	if l := p.m.Order(); len(l) > 0 {
		p.t.Fatalf("at the end %v are there", l)
	}
	for h, n := range p.marks {
		if p.came[h] != n {
			p.t.Fatalf("%d was marked %d times, and pending %d times", h, n, p.came[h])
		}
	}
}

// P13.7 to P13.12 of programs that keep to it, whatever the collector does and whenever.
func TestP13_7to12Programs(t *testing.T) {
	r := newMaker(137)
	for i := range 500 {
		p := newProgram(t, r, r.graph(2+i%20))
		p.run(150)
		p.end()
	}
}

// What a program reads from a weak table, it may hold.
func TestP13_7P13_8WeakReads(t *testing.T) {
	r := newMaker(1378)
	for i := range 300 {
		p := newProgram(t, r, r.graph(2+i%20))
		p.careful = false
		for range 150 {
			if p.Intn(2) == 0 {
				p.checkView(p.c.View(), p.change())
			} else {
				p.cycle = false
				done := p.collect()
				p.cycle = false
				p.checkKept(p.c.View(), done)
				p.notePending(p.c.View())
				p.checkView(p.c.View(), done)
			}
			p.look()
		}
		p.end()
	}
}

// P13.9: long cycles, with much done between two units.
func TestP13_9Cycles(t *testing.T) {
	r := newMaker(139)
	for i := range 200 {
		p := newProgram(t, r, r.graph(10+i%30))
		for cycles := 0; cycles < 4; {
			for range r.Intn(3) {
				p.change()
				p.look()
			}
			ended := p.unit()
			p.notePending(p.c.View())
			p.checkCycle(ended)
			p.checkView(p.c.View(), "Step")
			p.look()
			if ended {
				cycles++
			}
		}
	}
}

// P13.10: young collections one behind the other.
func TestP13_10Young(t *testing.T) {
	r := newMaker(1310)
	for i := range 300 {
		p := newProgram(t, r, r.graph(5+i%20))
		p.c.SetMode(api.ModeGen)
		p.notePending(p.c.View())
		p.look()
		for range 60 {
			for range r.Intn(4) {
				p.change()
				p.checkView(p.c.View(), "a change")
				p.look()
			}
			want := p.youngNeeds()
			if p.c.Young() {
				p.checkMajor()
			} else {
				checkList(t, "what is there behind Young", p.m.Order(), want...)
			}
			p.checkKept(p.c.View(), "Young")
			p.notePending(p.c.View())
			p.checkView(p.c.View(), "Young")
			p.look()
		}
	}
}

// P13.11: graphs of all kinds, in both modes.
func TestP13_11Major(t *testing.T) {
	r := newMaker(1311)
	for i := range 6000 {
		p := newProgram(t, r, r.graph(2+i%25))
		if i%2 == 1 {
			p.c.SetMode(api.ModeGen)
		} else {
			p.c.Major()
		}
		p.checkMajor()
		p.look()
		p.m.SetRoots(p.some())
		p.c.Take()
		p.look()
		p.c.Major()
		p.checkMajor()
		p.checkView(p.c.View(), "Major")
	}
}

// P13.12: what is marked again while it is pending is pending again once it was taken; in all ways of collecting.
func TestP13_12Once(t *testing.T) {
	for way, do := range []func(c *collect.Collector){
		(*collect.Collector).Major,
		func(c *collect.Collector) { c.Step(1000) },
		func(c *collect.Collector) {
			for range 1000 {
				if c.Step(1) {
					break
				}
			}
		},
	} {
		m, c := open(t, graph(nil, marked(1), marked(2, tab(1))))
		for range 4 {
			do(c)
			checkList(t, "Pending", c.View().Pending, 2, 1)
		}
		m.SetFin(1, 3)
		do(c)
		checkList(t, "Pending of one that was marked again", c.View().Pending, 2, 1)
		checkList(t, "taken", takeAll(c), 2, 1)
		do(c)
		checkList(t, "once it was taken", takeAll(c), 1)
		do(c)
		if l := m.Order(); len(l) > 0 {
			t.Errorf("way %d: %v are there", way, l)
		}
	}
}

// P13.13: of two alike one does a and b units at once, the other one a, then b, a third one each by itself.
func TestP13_13Units(t *testing.T) {
	r := newMaker(1313)
	for i := range 300 {
		g := r.graph(3 + i%20)
		seed := r.Int63()
		var ps [3]pair
		for j := range ps {
			ps[j] = newPair(t, newMaker(seed), g)
		}
		for range 40 {
			a, b := r.Intn(5), r.Intn(5)
			one := ps[0].c.Step(a + b)
			two := ps[1].c.Step(a) || ps[1].c.Step(b)
			three := false
			for n := 0; n < a+b && !three; n++ {
				three = ps[2].c.Step(1)
			}
			if one != two || one != three {
				t.Fatalf("Step(%d + %d): %v, %v, %v", a, b, one, two, three)
			}
			v := ps[0].c.View()
			if !same(v, ps[1].c.View()) || !same(v, ps[2].c.View()) {
				t.Fatalf("Step(%d + %d): %v, %v, %v", a, b, v, ps[1].c.View(), ps[2].c.View())
			}
			for j := range ps {
				check(t, "the model's Step", ps[j].m.step(a+b), one)
				for range 2 {
					ps[j].change()
				}
			}
		}
	}
}
