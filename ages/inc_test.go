package ages_test

import (
	"fmt"
	"slices"
	"testing"

	"heirloom/ages"
	"heirloom/api"
)

func TestP12_2NoObjects(t *testing.T) {
	for _, mode := range slices.Concat([]int{api.ModeInc, api.ModeGen}, noModes) {
		for _, phase := range slices.Concat(phases, noPhases) {
			check(t, "no objects", api.View{Mode: mode, Phase: phase, Grey: []int{1}, Again: []int{1, 2}, Pending: []int{3}})
		}
	}
}

func TestP12_2IncAges(t *testing.T) {
	bothWhites(func(current, _ int) {
		for _, phase := range phases {
			check(t, "New", inc(phase, current, one(1, current, api.New)))
			for _, age := range slices.Concat(allAges[1:], noAges) {
				v := inc(phase, current, one(1, current, api.New), one(2, current, age), one(3, current, api.New))
				check(t, "an age but New", v, at(2, -1))
			}
		}
	})
}

// What is asked of an object's colour in each phase of ModeInc, if White0 is the current white, or White1.
func TestP12_2IncColours(t *testing.T) {
	bothWhites(func(current, other int) {
		wrong := [][]int{
			api.PhasePause: slices.Concat([]int{other, api.Grey, api.Black}, noColours),
			api.PhaseMark:  {other},
			api.PhaseSweep: {api.Grey},
		}
		for _, phase := range phases {
			for _, colour := range slices.Concat(allColours, noColours) {
				name := fmt.Sprintf("phase %d, white %d, colour %d", phase, current, colour)
				v := inc(phase, current, one(4, colour, api.New))
				if slices.Contains(wrong[phase], colour) {
					check(t, name, v, at(4, -1))
				} else {
					check(t, name, v)
				}
			}
		}
	})
}

// Its colour and its age are wrong: said once.
func TestP12_2IncSaidOnce(t *testing.T) {
	bothWhites(func(current, other int) {
		for _, age := range slices.Concat(allAges[1:], noAges) {
			check(t, "pause", inc(api.PhasePause, current, one(5, api.Black, age)), at(5, -1))
			check(t, "mark", inc(api.PhaseMark, current, one(5, other, age)), at(5, -1))
			check(t, "sweep", inc(api.PhaseSweep, current, one(5, api.Grey, age)), at(5, -1))
		}
	})
}

// leads is a view of one object with slots that lead to others, whose handles are 10, 11, .., and to itself; the first slot is nil.
func leads(v api.View, owner api.Seen, targets []api.Seen) api.View {
	slots := []api.Value{{}}
	for i := range targets {
		targets[i].H = 10 + i
		slots = append(slots, tab(10+i))
	}
	owner.Thing.Slots = append(slots, tab(owner.H))
	v.Seen = slices.Concat([]api.Seen{owner}, targets)
	return v
}

// checkSlots asks of one object alone, and not of its colour or age.
func checkSlots(t *testing.T, v api.View, h int, want []int) {
	t.Helper()
	var slots []int
	for _, w := range ages.Audit(v) {
		if w.H == h && w.Slot >= 0 {
			slots = append(slots, w.Slot)
		}
	}
	if !slices.Equal(slots, want) {
		t.Errorf("Audit of %v tells of %d the slots %v, want %v", v, h, slots, want)
	}
}

func coloured() []api.Seen {
	var l []api.Seen
	for _, c := range slices.Concat(allColours, noColours) {
		l = append(l, one(0, c, api.New))
	}
	return l
}

// Of which colour something leads to which: the slot 1 has White0, 2 White1, 3 Grey, 4 Black, then come colours that are none; the last one leads to itself.
func TestP12_2IncSlots(t *testing.T) {
	bothWhites(func(current, other int) {
		for _, phase := range phases {
			for _, colour := range slices.Concat(allColours, noColours) {
				var want []int
				switch {
				case phase == api.PhaseMark && colour == api.Black:
					want = []int{1 + current}
				case phase == api.PhaseSweep && colour != other:
					want = []int{1 + other}
				}
				v := leads(inc(phase, current), one(3, colour, api.New), coloured())
				checkSlots(t, v, 3, want)
				v.Seen[0].Age = api.Old
				checkSlots(t, v, 3, want)
			}
		}
	})
}

// What leads to itself breaks a rule just if both ends do.
func TestP12_2IncItself(t *testing.T) {
	bothWhites(func(current, other int) {
		check(t, "mark, black", inc(api.PhaseMark, current, one(1, api.Black, api.New, tab(1), tab(1))))
		check(t, "mark, white", inc(api.PhaseMark, current, one(1, current, api.New, tab(1))))
		check(t, "sweep, the other white", inc(api.PhaseSweep, current, one(1, other, api.New, tab(1))))
		check(t, "sweep, grey", inc(api.PhaseSweep, current, one(1, api.Grey, api.New, tab(1))), at(1, -1))
		check(t, "pause", inc(api.PhasePause, current, one(1, current, api.New, tab(1))))
	})
}

// What is swept yet may lead to what is gone; in other phases and modes nothing may.
func TestP12_2OtherWhiteNowhere(t *testing.T) {
	bothWhites(func(current, other int) {
		lost := one(1, other, api.New, tab(8), tab(2), leading(api.TBox, 2))
		next := one(2, other, api.New)
		check(t, "sweep", inc(api.PhaseSweep, current, lost, next))
		check(t, "mark", inc(api.PhaseMark, current, lost, next), at(1, -1, 0, 2), at(2, -1))
		check(t, "pause", inc(api.PhasePause, current, lost, next), at(1, -1, 0, 2), at(2, -1))
		check(t, "no phase", inc(3, current, lost, next), at(1, -1, 0, 2), at(2, -1))
		lost.Age = api.Survival
		check(t, "sweep, an age but New", inc(api.PhaseSweep, current, lost, next), at(1, -1))
		v := gen(current, lost, next)
		check(t, "by generations", v, at(1, -1, 0, 2), at(2, -1))
		v.Phase = api.PhaseSweep
		check(t, "by generations, sweep", v, at(1, -1, 0, 2), at(2, -1))
		v.Mode = 2
		check(t, "no mode, sweep", v, at(1, -1, 0, 2), at(2, -1))
		for _, colour := range []int{current, api.Black} {
			lost := one(1, colour, api.New, tab(8), tab(2), leading(api.TBox, 2))
			check(t, "sweep, others", inc(api.PhaseSweep, current, lost, next), at(1, 0, 1, 2))
		}
		lost = one(1, api.Grey, api.New, tab(8), tab(2), leading(api.TBox, 2))
		check(t, "sweep, grey", inc(api.PhaseSweep, current, lost, next), at(1, -1, 0, 1, 2))
	})
}

// The same rule at several slots, and at several objects.
func TestP12_2IncOrder(t *testing.T) {
	bothWhites(func(current, other int) {
		v := inc(api.PhaseMark, current,
			one(9, api.Black, api.New, tab(4), api.Value{}, tab(4), tab(9), tab(4)),
			one(4, current, api.New, tab(4)),
			one(6, other, api.Old, tab(4), tab(1)),
			one(2, api.Black, api.Old0, tab(3), tab(4), tab(2), leading(api.TStr, 4)),
			one(1, api.Grey, api.New, tab(4), tab(6)))
		check(t, "mark", v, at(9, 0, 2, 4), at(6, -1), at(2, -1, 0, 1, 3))
		v.Phase = api.PhaseSweep
		check(t, "sweep", v, at(6, -1), at(2, -1, 0, 3), at(1, -1, 1))
		v.Phase = api.PhasePause
		check(t, "pause", v, at(9, -1), at(6, -1), at(2, -1, 0, 3), at(1, -1))
	})
}
