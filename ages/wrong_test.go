package ages_test

import (
	"fmt"
	"math"
	"reflect"
	"slices"
	"testing"

	"heirloom/ages"
	"heirloom/api"
)

// eachRight hands on views whose slots are looked at and of whose one object nothing is told: it has the handle 5 and these slots.
func eachRight(slots []api.Value, do func(name string, v api.View)) {
	for _, phase := range phases {
		do(fmt.Sprintf("phase %d", phase), inc(phase, api.White1, one(5, api.White1, api.New, slots...)))
	}
	for _, age := range allAges {
		v := gen(api.White0, one(5, coloursOf(age, api.White0)[0], age, slots...))
		v.Again = []int{5}
		do(fmt.Sprintf("age %d", age), v)
	}
}

// eachStrange hands on views of which each object is told: of a mode or phase that is none.
func eachStrange(seen []api.Seen, do func(name string, v api.View)) {
	for _, mode := range noModes {
		for _, phase := range slices.Concat(phases, noPhases) {
			do(fmt.Sprintf("mode %d, phase %d", mode, phase), api.View{Mode: mode, Phase: phase, White: api.White1, Seen: seen})
		}
	}
	for _, phase := range noPhases {
		do(fmt.Sprintf("phase %d", phase), inc(phase, api.White1, seen...))
	}
}

func TestP12_2NoSlots(t *testing.T) {
	eachRight(nil, func(name string, v api.View) { check(t, name, v) })
	eachRight([]api.Value{}, func(name string, v api.View) { check(t, name, v) })
}

func TestP12_2LeadsNowhere(t *testing.T) {
	var slots []api.Value
	for _, kind := range kinds {
		for _, h := range []int64{0, -1, -5, 4, 6, 1<<32 + 5, math.MaxInt64, math.MinInt64} {
			slots = append(slots, api.Value{T: kind, N: h})
		}
		if kind != api.TTable { // by its type alone
			slots = append(slots, api.Value{T: kind, N: 5})
		}
	}
	all := make([]int, len(slots))
	for i := range all {
		all[i] = i
	}
	eachRight(slots, func(name string, v api.View) { check(t, name, v, at(5, all...)) })
	seen := []api.Seen{one(5, api.White1, api.New, slots...)}
	eachStrange(seen, func(name string, v api.View) { check(t, name, v, at(5, -1), at(5, all...)) })
}

// Values of other types lead nowhere, and need not.
func TestP12_2OtherTypes(t *testing.T) {
	var slots []api.Value
	for _, kind := range []int{math.MinInt, -1, api.TNil, api.TBool, api.TInt, api.TFloat, api.TNative, api.TDead, 12, 1<<32 + api.TTable, math.MaxInt} {
		for _, n := range []int64{0, 5, 6, -1, math.MaxInt64, math.MinInt64} {
			slots = append(slots, api.Value{T: kind, N: n})
		}
	}
	eachRight(slots, func(name string, v api.View) { check(t, name, v) })
	v := gen(api.White0, one(5, api.Black, api.Old, slots...), one(6, api.White0, api.New))
	check(t, "Old with numbers that are a New one's handle", v)
	for _, kind := range []int{api.TInt, api.TNative, api.TDead, -1} {
		v = gen(api.White0, one(5, api.Black, api.Old, leading(kind, 6)), as(kind, one(6, api.White0, api.New)))
		check(t, "not even if an object has such a kind", v)
	}
	eachStrange([]api.Seen{one(5, api.White1, api.New, slots...)}, func(name string, v api.View) { check(t, name, v, at(5, -1)) })
}

// An object whose kind is none is asked for its colour, its age and its slots as others are.
func TestP12_2NoKind(t *testing.T) {
	for _, kind := range []int{math.MinInt, -1, 0, 3, 10, 11, math.MaxInt} {
		v := gen(api.White0, as(kind, one(1, api.Grey, api.Old, tab(2), tab(1), leading(kind, 1))), one(2, api.White0, api.New))
		check(t, fmt.Sprintf("kind %d", kind), v, at(1, -1, 0, 1))
	}
}

func TestP12_2AllKinds(t *testing.T) {
	for _, from := range kinds {
		for _, to := range kinds {
			for _, handle := range []int{2, 0, -3, math.MaxInt, math.MinInt} {
				v := gen(api.White0, as(from, one(1, api.Black, api.Old, api.Value{}, leading(to, handle))), as(to, one(handle, api.White0, api.New)))
				check(t, fmt.Sprintf("%d to %d", from, to), v, at(1, 1))
				v = inc(api.PhaseMark, api.White0, as(from, one(1, api.Black, api.New, api.Value{}, leading(to, handle))), as(to, one(handle, api.White0, api.New)))
				check(t, fmt.Sprintf("%d to %d, marking", from, to), v, at(1, 1))
			}
		}
	}
}

// What a table holds weakly is held against the rules as all else is.
func TestP12_2WeakTables(t *testing.T) {
	for weak := range 4 {
		s := one(1, api.Black, api.Old, api.Value{}, tab(2), tab(2), tab(3))
		s.Thing.Weak, s.Thing.Array, s.Thing.Fin = weak, 1, weak
		check(t, fmt.Sprintf("weak %d", weak), gen(api.White0, s, one(2, api.White0, api.New)), at(1, 1, 2, 3))
	}
}

// Of two with one handle and one kind the first one is led to; of two with unlike kinds each by its own. Both are asked themselves.
func TestP12_2SameHandle(t *testing.T) {
	old := one(1, api.Black, api.Old, tab(2), leading(api.TBox, 2))
	fresh, aged := one(2, api.White0, api.New), one(2, api.Black, api.Old)
	check(t, "the first one is New", gen(api.White0, old, fresh, aged, as(api.TBox, aged)), at(1, 0))
	check(t, "the first one is Old", gen(api.White0, old, aged, fresh, as(api.TBox, aged)))
	check(t, "the box is New", gen(api.White0, old, aged, as(api.TBox, fresh), fresh, as(api.TBox, aged)), at(1, 1))
	check(t, "the box comes first", gen(api.White0, old, as(api.TBox, fresh), aged), at(1, 1))
	check(t, "there is no box", gen(api.White0, old, aged, as(api.TFunc, fresh), fresh), at(1, 1))
	check(t, "others ahead", gen(api.White0, fresh, as(api.TBox, aged), old, aged), at(1, 0))

	black := one(1, api.Black, api.New, tab(2))
	white, grey := one(2, api.White1, api.New), one(2, api.Grey, api.New)
	check(t, "marking, white", inc(api.PhaseMark, api.White1, black, white, grey), at(1, 0))
	check(t, "marking, grey", inc(api.PhaseMark, api.White1, black, grey, white))

	twice := one(1, api.Black, api.Old, tab(1), tab(3))
	check(t, "both at fault", gen(api.White0, twice, one(3, api.White0, api.New), twice), at(1, 1), at(1, 1))
	twins := gen(api.White0, one(1, api.Grey, api.Touched1), as(api.TBox, one(1, api.Grey, api.Touched1, tab(2))))
	check(t, "not among Again", twins, at(1, -1), at(1, -1, 0))
	twins.Again = []int{1}
	check(t, "Again has handles, not kinds", twins, at(1, 0))
}

func TestP12_2StrangeModes(t *testing.T) {
	seen := []api.Seen{
		one(1, api.Black, api.Old, tab(2), tab(3), tab(9)),
		one(2, api.White1, api.New, tab(1)),
		one(3, api.White0, api.Survival, tab(2), tab(3), leading(api.TStr, 3), tab(-1)),
		one(4, 9, 9)}
	eachStrange(seen, func(name string, v api.View) {
		check(t, name, v, at(1, -1, 2), at(2, -1), at(3, -1, 2, 3), at(4, -1))
	})
}

// A White that is none: the current white is that number, and neither White0 nor White1 is it.
func TestP12_2StrangeWhites(t *testing.T) {
	for _, white := range noWhites {
		name := fmt.Sprintf("white %d", white)
		all := []api.Seen{one(1, api.White0, api.New), one(2, api.White1, api.New)}
		check(t, name+", pause", inc(api.PhasePause, white, all...), at(1, -1), at(2, -1))
		check(t, name+", mark", inc(api.PhaseMark, white, all...), at(1, -1), at(2, -1))
		check(t, name+", sweep", inc(api.PhaseSweep, white, all...))
		check(t, name+", by generations", gen(white, all...), at(1, -1), at(2, -1))
		same := []api.Seen{one(3, white, api.New, tab(3), tab(9))}
		check(t, name+", pause, the same", inc(api.PhasePause, white, same...), at(3, 1))
		check(t, name+", by generations, the same", gen(white, same...), at(3, 1))
		lost := []api.Seen{one(1, api.White0, api.New, tab(9)), one(2, api.White1, api.New, tab(9)), one(4, 7, api.New, tab(1), tab(2), tab(4), tab(9))}
		check(t, name+", sweep, slots", inc(api.PhaseSweep, white, lost...), at(4, 0, 1, 3))
		if white != api.Black {
			marked := []api.Seen{one(5, api.Black, api.New, tab(6), tab(5)), one(6, white, api.New)}
			check(t, name+", mark, slots", inc(api.PhaseMark, white, marked...), at(5, 0))
		}
	}
}

// Nothing that is handed in is changed, and nothing of an answer is kept.
func TestP12_2OwnMemory(t *testing.T) {
	made := func() api.View {
		v := gen(api.White0, one(3, api.Grey, api.Old, tab(2), tab(7)), one(2, api.White0, api.New, tab(3)), one(5, api.Grey, api.Touched1))
		v.Grey, v.Again, v.Pending = []int{3, 1}, []int{9, 5, 2}, []int{4, 4}
		return v
	}
	v := made()
	first, second := ages.Audit(v), ages.Audit(v)
	want := at(3, -1, 0, 1)
	if !slices.Equal(first, want) || !slices.Equal(second, want) {
		t.Fatalf("%v and %v, want %v", first, second, want)
	}
	clear(first)
	if !slices.Equal(second, want) || !slices.Equal(ages.Audit(v), want) {
		t.Error("a change of an answer is told by another one")
	}
	if !reflect.DeepEqual(v, made()) {
		t.Error("what was handed in has changed")
	}
}
