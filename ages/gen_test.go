package ages_test

import (
	"fmt"
	"slices"
	"testing"

	"heirloom/api"
)

// What colours objects of an age have, the current white being told.
func coloursOf(age, current int) []int {
	switch age {
	case api.New, api.Survival:
		return []int{current}
	case api.Old0:
		return []int{api.Grey, api.Black}
	case api.Touched1:
		return []int{api.Grey}
	case api.Old1, api.Old, api.Touched2:
		return []int{api.Black}
	}
	return nil
}

func TestP12_2GenColours(t *testing.T) {
	bothWhites(func(current, _ int) {
		for _, age := range slices.Concat(allAges, noAges) {
			for _, colour := range slices.Concat(allColours, noColours) {
				name := fmt.Sprintf("white %d, age %d, colour %d", current, age, colour)
				v := gen(current, one(6, colour, age))
				v.Again = []int{6}
				if slices.Contains(coloursOf(age, current), colour) {
					check(t, name, v)
				} else {
					check(t, name, v, at(6, -1))
				}
			}
		}
	})
}

func TestP12_2GenAgain(t *testing.T) {
	touched := one(6, api.Grey, api.Touched1)
	for _, x := range []struct {
		again []int
		wrong int
	}{
		{nil, 1}, {[]int{}, 1}, {[]int{5, 7}, 1}, {[]int{-6, 0, 60}, 1},
		{[]int{6}, 0}, {[]int{6, 6}, 0}, {[]int{1, 9, 6}, 0}, {[]int{-1, 1 << 40, 6, 0}, 0},
	} {
		v := gen(api.White1, touched)
		v.Again = x.again
		check(t, fmt.Sprintf("again %v", x.again), v, at(6, slices.Repeat([]int{-1}, x.wrong)...))
		v.Grey, v.Pending = []int{6}, []int{6}
		check(t, "among Grey and Pending too", v, at(6, slices.Repeat([]int{-1}, x.wrong)...))
	}
	v := gen(api.White0, one(6, api.Black, api.Touched1))
	check(t, "neither Grey nor among Again: said once", v, at(6, -1))
	v.Again = []int{6}
	check(t, "not Grey", v, at(6, -1))
	v = gen(api.White0, one(1, api.Grey, api.Touched1), one(2, api.Grey, api.Touched1), one(3, api.Grey, api.Touched1))
	v.Again = []int{2}
	check(t, "three", v, at(1, -1), at(3, -1))
}

// Who is among Again and is not Touched1, or is not there, is nothing.
func TestP12_2GenAgainOfOthers(t *testing.T) {
	v := gen(api.White0, one(1, api.White0, api.New), one(2, api.White0, api.Survival), one(3, api.Grey, api.Old0), one(4, api.Black, api.Old1), one(5, api.Black, api.Old), one(6, api.Black, api.Touched2))
	check(t, "none", v)
	v.Again = []int{1, 2, 3, 4, 5, 6, 7, 0, -1}
	check(t, "all", v)
}

func aged(current int) []api.Seen {
	var l []api.Seen
	for _, age := range slices.Concat(allAges, noAges) {
		l = append(l, one(0, append(coloursOf(age, current), api.Black)[0], age))
	}
	return l
}

// Of which age something leads to which: the slot 1 has New, 2 Survival, 3 Old0 and so on; the last one leads to itself. Colours are nothing to it.
func TestP12_2GenSlots(t *testing.T) {
	wrong := map[int][]int{api.Old: {1, 2}, api.Old1: {1}, api.Touched2: {1}}
	bothWhites(func(current, _ int) {
		for _, age := range slices.Concat(allAges, noAges) {
			for _, colour := range slices.Concat(allColours, noColours) {
				v := leads(gen(current), one(3, colour, age), aged(current))
				checkSlots(t, v, 3, wrong[age])
				for i := range v.Seen[1:] {
					v.Seen[i+1].Colour = colour
				}
				checkSlots(t, v, 3, wrong[age])
			}
		}
	})
}

func TestP12_2GenItself(t *testing.T) {
	for _, age := range allAges {
		v := gen(api.White0, one(1, coloursOf(age, api.White0)[0], age, tab(1), tab(1)))
		v.Again = []int{1}
		check(t, fmt.Sprintf("age %d", age), v)
	}
}

// Another phase is wrong of each, and the slots are asked as in the pause.
func TestP12_2GenPhases(t *testing.T) {
	bothWhites(func(current, other int) {
		v := gen(current,
			one(5, api.Black, api.Old, tab(6), tab(7), tab(8), tab(9)),
			one(6, current, api.New, tab(5)),
			one(7, current, api.Survival),
			one(8, other, api.Old1, tab(6), tab(7)))
		check(t, "the pause", v, at(5, 0, 1, 3), at(8, -1, 0))
		for _, phase := range slices.Concat(phases[1:], noPhases) {
			v.Phase = phase
			check(t, fmt.Sprintf("phase %d", phase), v, at(5, -1, 0, 1, 3), at(6, -1), at(7, -1), at(8, -1, 0))
		}
	})
}

// Whoever is Black and leads to white is right, if the ages are: colours of slots are asked in ModeInc alone.
func TestP12_2GenColoursOfSlots(t *testing.T) {
	bothWhites(func(current, other int) {
		v := gen(current, one(1, api.Black, api.Old1, tab(2)), one(2, current, api.Survival), one(3, api.Black, api.Old0, tab(4), tab(2)), one(4, current, api.New, tab(1)))
		check(t, "to the current white", v)
		v.Seen[1].Colour, v.Seen[3].Colour = other, other
		check(t, "to the other white", v, at(2, -1), at(4, -1))
	})
}

func TestP12_2GenOrder(t *testing.T) {
	bothWhites(func(current, other int) {
		v := gen(current,
			one(8, api.Black, api.Old, tab(3), tab(8), tab(3), tab(1), tab(3)),
			one(3, current, api.New, tab(8), tab(2)),
			one(1, other, api.Survival, tab(3)),
			one(2, api.Grey, api.Touched2, tab(1), tab(3), leading(api.TBox, 3)),
			one(7, api.Grey, api.Touched1, tab(3), tab(99)),
			one(5, api.Black, 7, tab(3), tab(0)))
		v.Again = []int{7}
		check(t, "many", v, at(8, 0, 2, 3, 4), at(1, -1), at(2, -1, 1, 2), at(7, 1), at(5, -1, 1))
		slices.Reverse(v.Seen)
		check(t, "the order of Seen, not of handles", v, at(5, -1, 1), at(7, 1), at(2, -1, 1, 2), at(1, -1), at(8, 0, 2, 3, 4))
	})
}

// Of a slot that leads to New, which is young too, and of an object whose age, colour and phase are wrong all at once it is told once.
func TestP12_2ToldOnce(t *testing.T) {
	for _, age := range []int{api.Old, api.Old1, api.Touched2} {
		v := gen(api.White0, one(1, api.White1, age, tab(2)), one(2, api.White0, api.New))
		check(t, "the pause", v, at(1, -1, 0))
		v.Phase = api.PhaseMark
		check(t, "mark", v, at(1, -1, 0), at(2, -1))
	}
	v := gen(api.White0, one(1, api.Black, api.Touched1, tab(1), tab(2)))
	v.Phase = 9
	check(t, "no phase, not Grey, not among Again", v, at(1, -1, 1))
	v.Mode = 9
	check(t, "no phase, no mode", v, at(1, -1, 1))
}
