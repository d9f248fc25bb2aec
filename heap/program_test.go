package heap_test

import (
	"fmt"
	"math/rand"
	"slices"
	"strings"
	"testing"

	"heirloom/api"
	"heirloom/heap"
	"heirloom/reach"
)

// A program keeps to it: what it uses lies in its registers, and these are the roots, but for some that are kept.
type program struct {
	t     *testing.T
	h     *heap.Heap
	regs  []api.Value
	asked int // how many cells what was called last asked for
}

const registers = 12

func newProgram(t *testing.T, size int) *program {
	return &program{t: t, h: open(t, size), regs: make([]api.Value, registers)}
}

// hold makes the registers the roots: those from some one on are kept.
func (p *program) hold(kept int) {
	p.h.Release(registers)
	p.h.SetRoots(p.regs[:kept]...)
	p.h.Keep(p.regs[kept:]...)
}

// name is what a program can tell of a value: no handle, no place.
func (p *program) name(v api.Value) string {
	if s, is := p.h.Bytes(v); is {
		return fmt.Sprintf("%q", s)
	}
	if o, is := p.h.Object(v); is {
		return fmt.Sprint("object ", v.T, " ", o.Head.Serial)
	}
	return fmt.Sprint(v)
}

// tells is an object with all that it has, as a program can tell it.
func (p *program) tells(v api.Value) string {
	o, is := p.h.Object(v)
	if !is {
		return p.name(v)
	}
	l := []string{p.name(v), fmt.Sprint(o.Head.Weak, o.Head.Fin, o.Aux)}
	for _, x := range o.Slots {
		l = append(l, p.name(x))
	}
	return strings.Join(l, " ")
}

// A deed is what a program does: it tells what it saw.
type deed struct {
	name string
	do   func(p *program) (string, api.Errno)
}

// put puts what a call answered into a register.
func (p *program) put(i int, v api.Value, err api.Errno) (string, api.Errno) {
	if err == api.OK {
		p.regs[i] = v
	}
	return p.name(v), err
}

// makers are deeds that make something.
func makers(r *rand.Rand) []deed {
	i, j, k, n := r.Intn(registers), r.Intn(registers), r.Intn(registers), r.Intn(6)
	s := strings.Repeat(string(rune('a'+r.Intn(5))), r.Intn(4)*r.Intn(8))
	return []deed{
		{"Text", func(p *program) (string, api.Errno) {
			p.asked = textCells(len(s))
			v, err := p.h.Text(s)
			return p.put(i, v, err)
		}},
		{"Table", func(p *program) (string, api.Errno) {
			p.asked = tableCells
			v, err := p.h.Table()
			return p.put(i, v, err)
		}},
		{"Proto", func(p *program) (string, api.Errno) {
			l := p.regs[min(j, k):max(j, k)]
			p.asked = 3 + 2*len(l)
			v, err := p.h.Proto(n, l...)
			return p.put(i, v, err)
		}},
		{"Func", func(p *program) (string, api.Errno) {
			l := slices.Repeat([]api.Value{p.regs[k]}, n)
			p.asked = 4 + 2*n
			v, err := p.h.Func(p.regs[j], l...)
			return p.put(i, v, err)
		}},
		{"Box", func(p *program) (string, api.Errno) {
			p.asked = boxCells
			v, err := p.h.Box(p.regs[j])
			return p.put(i, v, err)
		}},
		{"Thread", func(p *program) (string, api.Errno) {
			p.asked = 2 + 2*n
			v, err := p.h.Thread(n)
			return p.put(i, v, err)
		}},
		{"Grow", func(p *program) (string, api.Errno) {
			o, _ := p.h.Object(p.regs[i])
			p.asked = 2 * (n*n - len(o.Slots))
			return "", p.h.Grow(p.regs[i], n*n)
		}},
	}
}

// users are deeds that read and write.
func users(r *rand.Rand) []deed {
	i, j, k, n := r.Intn(registers), r.Intn(registers), r.Intn(registers), r.Intn(6)
	set := deed{"Set", func(p *program) (string, api.Errno) {
		err := p.h.Set(p.regs[i], p.regs[j], p.regs[k])
		if o, is := p.h.Object(p.regs[i]); is && err == api.ErrFull {
			p.asked = askedCells(o, p.regs[j]) - 4 - 2*len(o.Slots)
		}
		return "", err
	}}
	return []deed{
		set, set, set, set,
		{"Slot", func(p *program) (string, api.Errno) {
			v, err := p.h.Slot(p.regs[j], n) // of a weak table it may be a key whose object is gone
			return p.put(i, v, err)
		}},
		{"SetSlot", func(p *program) (string, api.Errno) {
			if t := p.regs[i].T; t == api.TTable || t == api.TFunc { // these have slots of which a kind asks more
				return "", api.OK
			}
			return "", p.h.SetSlot(p.regs[i], n, p.regs[j])
		}},
		{"Get", func(p *program) (string, api.Errno) {
			v, err := p.h.Get(p.regs[j], p.regs[k])
			return p.put(i, v, err)
		}},
		{"Len", func(p *program) (string, api.Errno) {
			n, err := p.h.Len(p.regs[i])
			return fmt.Sprint(n), err
		}},
		{"Next", func(p *program) (string, api.Errno) {
			k, v, err := p.h.Next(p.regs[j], p.regs[k])
			p.put(i, k, err)
			return p.name(k) + p.name(v), err
		}},
		{"SetMeta", func(p *program) (string, api.Errno) {
			return "", p.h.SetMeta(p.regs[i], p.regs[j], api.WeakNone)
		}},
		{"a number", func(p *program) (string, api.Errno) { return p.put(i, whole(n+j-4), api.OK) }},
		{"move", func(p *program) (string, api.Errno) { return p.put(i, p.regs[j], api.OK) }},
		{"let go", func(p *program) (string, api.Errno) { return p.put(i, none, api.OK) }},
		{"count up", func(p *program) (string, api.Errno) { // so that tables have some keys
			for n := range 2 * n {
				if err := p.h.Set(p.regs[i], whole(n), p.regs[j]); err != api.OK {
					o, _ := p.h.Object(p.regs[i])
					if err == api.ErrFull {
						p.asked = askedCells(o, whole(n)) - 4 - 2*len(o.Slots)
					}
					return fmt.Sprint(n), err
				}
			}
			return "", api.OK
		}},
		{"all keys", func(p *program) (string, api.Errno) {
			if _, err := p.h.Len(p.regs[i]); err != api.OK {
				return "", err
			}
			var l []string
			for _, k := range keysOf(p.t, p.h, p.regs[i]) {
				l = append(l, p.name(k))
			}
			return strings.Join(l, " "), api.OK
		}},
	}
}

// aDeed picks one.
func aDeed(r *rand.Rand) deed {
	l := makers(r)
	if r.Intn(5) > 1 {
		l = users(r)
	}
	return l[r.Intn(len(l))]
}

// collected does something with the collector, or the arena.
func collected(r *rand.Rand, h *heap.Heap) string {
	switch n := r.Intn(16); {
	case n < 6:
		h.Step(1 + r.Intn(2*n+1))
		return "Step"
	case n < 10:
		h.Young()
		return "Young"
	case n < 11:
		h.Major()
		return "Major"
	case n < 13:
		h.SetMode(r.Intn(2))
		return "SetMode"
	case n < 15:
		h.Compact()
		return "Compact"
	}
	return "nothing"
}

// all is everything that a program can come to, as it tells it.
func (p *program) all() []string {
	var l []string
	known := map[api.Value]int{}
	rest := slices.Clone(p.regs)
	for len(rest) > 0 {
		v := rest[0]
		rest = rest[1:]
		o, is := p.h.Object(v)
		if known[v] == 1 || !is {
			continue
		}
		known[v] = 1
		l = append(l, p.tells(v))
		rest = append(rest, o.Slots...)
	}
	return l
}

// neededCells is how many cells those have that the roots and what is pending, or becomes so, need.
func neededCells(h *heap.Heap, v api.View, roots []api.Value) int {
	place := map[int]int{}
	var sizes []int
	g := api.Graph{}
	for i, s := range v.Seen {
		place[s.H] = i + 1
		sizes = append(sizes, h.Arena.Len(s.H))
	}
	other := func(l []api.Value) []api.Value {
		l = slices.Clone(l)
		for i, x := range l {
			if slices.Contains(kinds, x.T) {
				l[i].N = int64(place[int(x.N)])
			}
		}
		return l
	}
	for _, s := range v.Seen {
		t := s.Thing
		t.Slots = other(t.Slots)
		g.Things = append(g.Things, t)
	}
	g.Roots = other(roots)
	for _, b := range v.Pending {
		g.Roots = append(g.Roots, api.Value{T: g.Things[place[b]-1].Kind, N: int64(place[b])})
	}
	cells := 0
	for i, is := range reach.Collect(g).Live {
		if is {
			cells += sizes[i]
		}
	}
	return cells
}
