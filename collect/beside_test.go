package collect_test

import (
	"math/rand"
	"testing"

	"heirloom/api"
	"heirloom/collect"
)

// A maker makes graphs, and does calls of any kind with a collector and the model beside it.
type maker struct{ *rand.Rand }

func newMaker(seed int64) maker { return maker{rand.New(rand.NewSource(seed))} }

func (m maker) pick(l ...int) int { return l[m.Intn(len(l))] }

func (m maker) kind() int {
	if m.Intn(2) == 0 {
		return api.TTable
	}
	return m.pick(kinds...)
}

// thing makes an object whose slots are nil.
func (m maker) thing() api.Thing {
	t := api.Thing{Kind: m.kind()}
	if t.Kind != api.TStr {
		t.Slots = make([]api.Value, m.Intn(8))
	}
	if len(t.Slots) > 0 {
		t.Array = m.Intn(len(t.Slots))
	}
	if t.Kind == api.TTable {
		t.Weak = m.pick(0, 0, 0, 1, 2, 3)
	}
	return t
}

// value picks one of some objects, or something that is none.
func (m maker) value(l []api.Seen) api.Value {
	if len(l) == 0 || m.Intn(5) == 0 {
		return api.Value{T: m.pick(api.TNil, api.TBool, api.TInt, api.TFloat, api.TNative, api.TDead), N: int64(m.Intn(9))}
	}
	s := l[m.Intn(len(l))]
	return leading(s.Thing.Kind, s.H)
}

func seenOf(g api.Graph) []api.Seen {
	var l []api.Seen
	for i, t := range g.Things {
		l = append(l, api.Seen{H: i + 1, Thing: t})
	}
	return l
}

// graph makes a graph that NewMem takes.
func (m maker) graph(size int) api.Graph {
	var g api.Graph
	fins := m.Perm(2 * size)
	for i := range m.Intn(size) {
		t := m.thing()
		if t.Kind == api.TTable {
			t.Fin = max(0, fins[i]-size)
		}
		g.Things = append(g.Things, t)
	}
	seen := seenOf(g)
	for _, t := range g.Things {
		for i := range t.Slots {
			t.Slots[i] = m.value(seen)
		}
	}
	for range m.Intn(4) {
		g.Roots = append(g.Roots, m.value(seen))
	}
	return g
}

// objects are those that a test may change: a Mem's, or others.
type objects interface {
	api.Objects
	Add(t api.Thing) int
	Set(h, slot int, v api.Value) bool
	SetRoots(l ...api.Value)
}

// A pair is a collector with its objects, and the model that does the same.
type pair struct {
	maker
	t   *testing.T
	mem objects
	c   *collect.Collector
	m   *model
}

func newPair(t *testing.T, r maker, g api.Graph) pair {
	t.Helper()
	mem, c := open(t, g)
	return pair{r, t, mem, c, newModel(g)}
}

// handle picks one that is there, as a rule.
func (p pair) handle() int {
	if l := p.m.order(); len(l) > 0 && p.Intn(15) > 0 {
		return p.pick(l...)
	}
	return p.pick(append([]int{p.m.greatest - 1, p.m.greatest + 1}, noHandles...)...)
}

// value picks one that leads to something that is there, as a rule.
func (p pair) value() api.Value {
	v := p.maker.value(p.m.view().Seen)
	switch p.Intn(20) {
	case 0:
		v.T = p.kind()
	case 1:
		v.N = int64(p.handle())
	}
	return v
}

// change does something with the objects, and tells the collector of it more often than not.
func (p pair) change() string {
	switch p.Intn(7) {
	case 0:
		t := p.thing()
		h := p.mem.Add(t)
		p.m.addAs(h, t)
		if p.Intn(5) > 0 {
			p.m.birth(h)
			p.c.Birth(h)
		}
		p.hold(leading(t.Kind, h))
		return "Add"
	case 1:
		p.hold(p.value())
		return "SetRoots"
	case 2:
		h, fin := p.handle(), p.Intn(6)-1
		if o := p.m.at(h); o != nil {
			o.thing.Fin = fin
			p.mem.SetFin(h, fin)
		}
		return "SetFin"
	case 3:
		if p.Intn(8) > 0 {
			return "nothing"
		}
		if h := p.handle(); p.m.at(h) != nil {
			p.m.lose(h)
			p.mem.Drop(h)
		}
		return "Drop"
	default:
		h, slot, v := p.handle(), p.Intn(8)-1, p.value()
		check(p.t, "Set", p.mem.Set(h, slot, v), p.m.set(h, slot, v))
		if p.Intn(5) > 0 {
			p.m.write(h, v)
			p.c.Write(h, v)
		}
		return "Set"
	}
}

// hold makes a value one of few roots.
func (p pair) hold(v api.Value) {
	p.m.roots = append(p.m.roots, v)
	if n := len(p.m.roots); n > 6 {
		at := p.Intn(n - 1)
		p.m.roots = append(p.m.roots[:at], p.m.roots[at+1:]...)
	}
	if p.Intn(20) == 0 {
		p.m.roots = nil
	}
	p.mem.SetRoots(p.m.roots...)
}

// spoil makes colours and ages such as no collector would.
func (p pair) spoil() string {
	h, colour, age := p.handle(), p.pick(allColours...), p.pick(allAges...)
	if o := p.m.at(h); o != nil {
		o.colour, o.age = colour, age
		p.mem.SetColour(h, colour)
		p.mem.SetAge(h, age)
	}
	return "SetColour, SetAge"
}

// collect does one of the collector's calls.
func (p pair) collect() string {
	switch p.Intn(10) {
	case 0:
		p.m.major()
		p.c.Major()
		return "Major"
	case 1:
		mode := p.pick(append([]int{api.ModeInc, api.ModeGen, api.ModeInc, api.ModeGen}, noModes...)...)
		p.m.setMode(mode)
		p.c.SetMode(mode)
		return "SetMode"
	case 2:
		h, is := p.m.take()
		got, was := p.c.Take()
		check(p.t, "Take", got, h)
		check(p.t, "Take", was, is)
		return "Take"
	case 3, 4:
		check(p.t, "Young", p.c.Young(), p.m.young())
		return "Young"
	case 5:
		h := p.handle()
		p.m.birth(h)
		p.c.Birth(h)
		return "Birth"
	case 6:
		h, v := p.handle(), p.value()
		p.m.write(h, v)
		p.c.Write(h, v)
		return "Write"
	default:
		k := p.pick(-1, 0, 1, 1, 1, 1, 2, 3, 5, 1000)
		check(p.t, "Step", p.c.Step(k), p.m.step(k))
		return "Step"
	}
}

func (p pair) check(done string) {
	p.t.Helper()
	if got, want := p.c.View(), p.m.view(); !same(got, want) {
		p.t.Fatalf("behind %s: %v, want %v", done, got, want)
	}
	check(p.t, "White", p.c.White(), p.m.white)
	check(p.t, "Live", p.c.Live(), p.m.live())
	if p.t.Failed() {
		p.t.Fatalf("behind %s", done)
	}
}

// Whatever is done, in whichever order, is as the chapter says it word by word.
func TestP13Model(t *testing.T) {
	r := newMaker(13)
	for i := range 3000 {
		p := newPair(t, r, r.graph(1+i%14))
		p.check("NewMem")
		for range 60 {
			if r.Intn(2) == 0 {
				p.check(p.change())
			} else {
				p.check(p.collect())
			}
		}
	}
}

// So it is with colours and ages that break the rules.
func TestP13ModelOfSpoilt(t *testing.T) {
	r := newMaker(1313)
	for i := range 2000 {
		p := newPair(t, r, r.graph(2+i%14))
		for range 60 {
			switch r.Intn(5) {
			case 0:
				p.check(p.spoil())
			case 1, 2:
				p.check(p.change())
			default:
				p.check(p.collect())
			}
		}
	}
}

// All graphs of two tables that hold weakly, or not, with up to two slots behind the first one each, are collected as the chapter says, in all ways.
func TestP13ModelOfSmall(t *testing.T) {
	vs := []api.Value{none, tab(1), tab(2), str(3)}
	r := newMaker(131)
	for weaks := range 16 {
		for arrays := range 9 {
			for slots := range 1 << 8 {
				pick := func(i int) api.Value { return vs[slots>>(2*i)&3] }
				one := weak(weaks&3, arrays%3, none, pick(0), pick(1))
				two := weak(weaks>>2, arrays/3, none, pick(2), pick(3))
				two.Fin = (slots + arrays) & 1
				g := graph([]int{1}, one, two, thing(api.TStr))
				for way := range 3 {
					p := newPair(t, r, g)
					switch way {
					case 0:
						p.m.major()
						p.c.Major()
					case 1:
						check(t, "Step", p.c.Step(100), p.m.step(100))
					case 2:
						p.m.setMode(api.ModeGen)
						p.c.SetMode(api.ModeGen)
						check(t, "Young", p.c.Young(), p.m.young())
					}
					p.check("a collection")
				}
			}
		}
	}
}
