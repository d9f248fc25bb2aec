package heap_test

import (
	"math/rand"
	"slices"
	"strings"
	"testing"

	"heirloom/api"
	"heirloom/heap"
)

// twins does the same deeds with two heaps, one that has much room and in which nothing is collected, and one in which anything is, between any two deeds. It tells whether there was no room in the end.
func twins(t *testing.T, seed int64) bool {
	r, s := rand.New(rand.NewSource(seed)), rand.New(rand.NewSource(-seed-1))
	size := 60 + r.Intn(60*(1+r.Intn(10)))
	a, b := newProgram(t, api.MaxCells), newProgram(t, size)
	var done []string
	for n := range 250 {
		d := aDeed(r)
		view, roots := b.h.View(), b.h.Roots()
		needed := neededCells(b.h, view, roots)
		_, _, before := b.h.Counts()
		seenA, errA := d.do(a)
		seenB, errB := d.do(b)
		done = append(done, d.name+" "+seenB)
		_, _, behind := b.h.Counts()
		if errB == api.ErrFull {
			// P14.11. (Of "count up" more may have been made ahead of it.)
			live, _, _ := b.h.Free()
			if d.name != "count up" && live != needed || live+b.asked <= size {
				t.Fatalf("seed %d: %s: ErrFull, and %d of %d cells are needed, %d live, %d asked for", seed, d.name, needed, size, live, b.asked)
			}
			checkRules(t, "ErrFull", b.h)
			return true
		}
		if seenA != seenB || errA != errB {
			t.Fatalf("seed %d:\n%s: %s, %v, want %s, %v", seed, strings.Join(done, "\n"), seenB, errB, seenA, errA)
		}
		if behind > before && behind > before+1 && d.name != "count up" {
			t.Fatalf("%d emergencies in one call", behind-before)
		}
		a.hold(s.Intn(registers))
		b.hold(s.Intn(registers))
		for range s.Intn(3) {
			done = append(done, collected(s, b.h))
			checkRules(t, strings.Join(done, "\n"), b.h)
		}
		if n%10 == 0 {
			checkTwins(t, a, b)
		}
	}
	checkTwins(t, a, b)
	_, _, emergencies := a.h.Counts()
	check(t, "emergencies with much room", emergencies, 0)
	return false
}

// checkTwins: P14.7, P14.8, P14.12: a program finds the same in both.
func checkTwins(t *testing.T, a, b *program) {
	t.Helper()
	l, m := a.all(), b.all()
	if !slices.Equal(l, m) {
		t.Fatalf("%v\nis wanted, and there is\n%v", strings.Join(l, "\n"), strings.Join(m, "\n"))
	}
	checkTexts(t, b.h)
}

// checkTexts: P14.8: no two strings have the same bytes.
func checkTexts(t *testing.T, h *heap.Heap) {
	t.Helper()
	known := map[string]int{}
	for _, s := range h.View().Seen {
		if s.Thing.Kind != api.TStr {
			continue
		}
		bytes, is := h.Bytes(leading(api.TStr, s.H))
		if other, there := known[bytes]; there || !is {
			t.Fatalf("%q is %d and %d", bytes, other, s.H)
		}
		known[bytes] = s.H
	}
}

// TestP14_7Twins: P14.7 to P14.12 of programs that hold nothing weakly: they cannot tell what is collected, nor how much room there is.
func TestP14_7Twins(t *testing.T) {
	full := 0
	const runs = 250
	for seed := range runs {
		if twins(t, int64(seed)) {
			full++
		}
	}
	if full < runs/10 || full > 9*runs/10 {
		t.Errorf("%d of %d programs found no room", full, runs)
	}
}

// TestP14_7Weak: what weak tables have stays as long as it is held elsewhere, and goes with it.
func TestP14_7Weak(t *testing.T) {
	for seed := range 150 {
		r := rand.New(rand.NewSource(int64(seed)))
		weak := 1 + seed%3
		h := open(t, 2000)
		tab := one(t)(h.Table())
		h.SetRoots(tab)
		check(t, "SetMeta", h.SetMeta(tab, none, weak), api.OK)
		want := map[api.Value]api.Value{}
		var held []api.Value // keys and values of want, and no others
		for range 60 {
			k, v := one(t)(h.Box(none)), none
			h.Keep(k)
			v = one(t)(h.Thread(1))
			h.Release(1)
			h.Keep(held...)
			h.Keep(k, v)
			check(t, "Set", h.Set(tab, k, v), api.OK)
			h.Release(len(held) + 2)
			want[k] = v
			held = append(held, k, v)
			if r.Intn(2) == 0 { // one is let go
				i := 2 * r.Intn(len(held)/2)
				delete(want, held[i])
				held = slices.Delete(held, i, i+2)
			}
			h.Keep(held...)
			collected(r, h)
			checkRules(t, "weak", h)
			for k, v := range want {
				checkGet(t, "held elsewhere", h, tab, k, v)
			}
			if r.Intn(5) == 0 {
				h.Major()
				if l := keysOf(t, h, tab); len(l) != len(want) {
					t.Fatalf("seed %d: %d keys are met, %d are held", seed, len(l), len(want))
				}
			}
			h.Release(len(held))
		}
	}
}

// TestP14_8: strings are one value just if they have the same bytes, whatever was collected between.
func TestP14_8(t *testing.T) {
	for seed := range 60 {
		r := rand.New(rand.NewSource(int64(seed)))
		h := open(t, 300)
		held := map[string]api.Value{}
		for range 300 {
			s := strings.Repeat(string(rune('a'+r.Intn(3))), r.Intn(12))
			v := one(t)(h.Text(s))
			if known, is := held[s]; is && known != v {
				t.Fatalf("seed %d: %q is %v and %v", seed, s, known, v)
			}
			if got, is := h.Bytes(v); got != s || !is {
				t.Fatalf("seed %d: %v is %q, want %q", seed, v, got, s)
			}
			held[s] = v
			if len(held) > 4 {
				clear(held)
			}
			var l []api.Value
			for _, v := range held {
				l = append(l, v)
			}
			h.SetRoots(l...)
			collected(r, h)
			checkTexts(t, h)
			checkRules(t, "texts", h)
		}
	}
}

// deadIn is a key whose object is gone, if a table has one.
func deadIn(h *heap.Heap) api.Value {
	for _, s := range h.View().Seen {
		for _, v := range s.Thing.Slots {
			if v.T == api.TDead {
				return v
			}
		}
	}
	return none
}

// TestP14_10: no rule is broken, nor a layout, of programs that mark for finalisers, hold weakly, take what is pending, and use whatever they read.
func TestP14_10(t *testing.T) {
	deads := 0
	for seed := range 150 {
		r := rand.New(rand.NewSource(int64(seed)))
		p := newProgram(t, 150+r.Intn(600))
		for range 250 {
			d := aDeed(r)
			i := r.Intn(registers)
			switch r.Intn(8) {
			case 0:
				d = deed{"Mark", func(p *program) (string, api.Errno) { return "", p.h.Mark(p.regs[i]) }}
			case 1:
				d = deed{"Take", func(p *program) (string, api.Errno) {
					v, _ := p.h.Take()
					return p.put(i, v, api.OK)
				}}
			case 2:
				d = deed{"SetMeta", func(p *program) (string, api.Errno) { return "", p.h.SetMeta(p.regs[i], none, r.Intn(4)) }}
			case 3:
				if v := deadIn(p.h); v != none {
					deads++
					d = deed{"a dead key", func(p *program) (string, api.Errno) { return p.put(i, v, api.OK) }}
				}
			}
			view, roots := p.h.View(), p.h.Roots()
			needed := neededCells(p.h, view, roots)
			_, err := d.do(p)
			if live, _, _ := p.h.Free(); err == api.ErrFull && d.name != "count up" {
				if live != needed || live+p.asked <= p.h.Size() {
					t.Fatalf("seed %d: %s: ErrFull, and %d of %d cells are needed, %d live, %d asked for", seed, d.name, needed, p.h.Size(), live, p.asked)
				}
				p.regs = make([]api.Value, registers)
			}
			p.hold(r.Intn(registers))
			checkRules(t, d.name, p.h)
			checkRules(t, collected(r, p.h), p.h)
		}
	}
	if deads < 15 {
		t.Errorf("%d dead keys were read alone", deads)
	}
}

// TestP14_11: room is found where there is just so much, and refused where there is one cell less than needed.
func TestP14_11(t *testing.T) {
	const m = 6 // boxes that are held: they, and as many that are not, fill the heap
	free := m * boxCells
	for name, call := range map[string]struct {
		fits, fails func(h *heap.Heap, l []api.Value) api.Errno
	}{
		"Text": {
			func(h *heap.Heap, l []api.Value) api.Errno {
				_, err := h.Text(strings.Repeat("a", 8*(free-3)))
				return err
			},
			func(h *heap.Heap, l []api.Value) api.Errno {
				_, err := h.Text(strings.Repeat("a", 8*(free-3)+1))
				return err
			},
		},
		"Proto": {
			func(h *heap.Heap, l []api.Value) api.Errno {
				_, err := h.Proto(0, make([]api.Value, (free-3)/2)...)
				return err
			},
			func(h *heap.Heap, l []api.Value) api.Errno {
				_, err := h.Proto(0, make([]api.Value, (free-1)/2)...)
				return err
			},
		},
		"Thread": {
			func(h *heap.Heap, l []api.Value) api.Errno { _, err := h.Thread((free - 2) / 2); return err },
			func(h *heap.Heap, l []api.Value) api.Errno { _, err := h.Thread(free / 2); return err },
		},
		"Grow": {
			func(h *heap.Heap, l []api.Value) api.Errno { return growFrom(h, l, (free-2)/2) },
			func(h *heap.Heap, l []api.Value) api.Errno { return growFrom(h, l, free/2) },
		},
		"Set": { // 22 cells of 24, and then 38
			func(h *heap.Heap, l []api.Value) api.Errno { return setAll(h, 4) },
			func(h *heap.Heap, l []api.Value) api.Errno { return setAll(h, 5) },
		},
	} {
		for _, phase := range []int{api.PhasePause, api.PhaseMark, api.PhaseSweep} {
			h, l := gaps(t, 2*free)
			toPhase(t, h, phase)
			check(t, name+" that fits", call.fits(h, l), api.OK)
			checkThere(t, name, h, l...)
			checkRules(t, name, h)
			h, l = gaps(t, 2*free)
			toPhase(t, h, phase)
			check(t, name+" that does not", call.fails(h, l), api.ErrFull)
			checkThere(t, name, h, l...)
			checkRules(t, name, h)
		}
	}
}

func growFrom(h *heap.Heap, l []api.Value, n int) api.Errno {
	v, err := h.Thread(1)
	if err != api.OK {
		return err
	}
	return h.Grow(v, n)
}

func setAll(h *heap.Heap, n int) api.Errno {
	v, err := h.Table()
	for i := 0; i < n && err == api.OK; i++ {
		err = h.Set(v, whole(-i), yes)
	}
	return err
}

// TestP14_12: keys that are objects are met in the same order, though their handles are others, and they are elsewhere.
func TestP14_12(t *testing.T) {
	orders := map[string][]string{}
	for _, way := range []string{"", "Major", "Young", "Compact", "Step"} {
		p := newProgram(t, api.MaxCells)
		tab := one(t)(p.h.Table())
		p.h.Keep(tab)
		for i := range 40 {
			switch way {
			case "Major":
				one(t)(p.h.Text(strings.Repeat("lost", i)))
				p.h.Major()
			case "Young":
				one(t)(p.h.Text(strings.Repeat("lost", i)))
				p.h.SetMode(api.ModeGen)
				p.h.Young()
			case "Compact":
				one(t)(p.h.Text(strings.Repeat("lost", i)))
				p.h.Major()
				p.h.Compact()
			case "Step":
				p.h.Step(3 * i)
			}
			one(t)(p.h.Thread(i)) // handles are others where it is collected
			for _, k := range []api.Value{one(t)(p.h.Box(none)), one(t)(p.h.Text(string(rune('a' + i)))), whole(i * i)} {
				p.h.Keep(k)
				check(t, "Set", p.h.Set(tab, k, yes), api.OK)
				p.h.Release(1)
			}
		}
		for _, k := range keysOf(t, p.h, tab) {
			orders[way] = append(orders[way], p.name(k))
		}
		if len(orders[way]) != 120 {
			t.Fatalf("%s: %d keys", way, len(orders[way]))
		}
		checkList(t, way, orders[way], orders[""]...)
	}
}
