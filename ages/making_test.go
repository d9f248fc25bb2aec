package ages_test

import (
	"math"
	"slices"
	"testing"

	"heirloom/ages"
	"heirloom/api"
)

// All kinds that an object may have, all ages and colours, and numbers that are neither.
var (
	kinds      = []int{api.TStr, api.TTable, api.TFunc, api.TBox, api.TThread, api.TProto}
	allAges    = []int{api.New, api.Survival, api.Old0, api.Old1, api.Old, api.Touched1, api.Touched2}
	allColours = []int{api.White0, api.White1, api.Grey, api.Black}
	noAges     = []int{math.MinInt, math.MinInt + 1, -1 << 32, -7, -2, -1, 7, 8, 9, 100, 1 << 32, 1<<32 + 4, math.MaxInt - 1, math.MaxInt}
	noColours  = []int{math.MinInt, -2, -1, 4, 5, 1 << 32, math.MaxInt}
	phases     = []int{api.PhasePause, api.PhaseMark, api.PhaseSweep}
	noPhases   = []int{math.MinInt, -1, 3, 4, 1 << 32, math.MaxInt}
	noModes    = []int{math.MinInt, -1, 2, 3, 1 << 32, math.MaxInt}
	noWhites   = []int{math.MinInt, -1, 2, 3, 4, 1 << 32, math.MaxInt}
)

// leading is a value that leads to the object with this kind and handle.
func leading(kind, h int) api.Value { return api.Value{T: kind, N: int64(h)} }

func tab(h int) api.Value { return leading(api.TTable, h) }

// one is a table.
func one(h, colour, age int, slots ...api.Value) api.Seen {
	return api.Seen{H: h, Thing: api.Thing{Kind: api.TTable, Slots: slots}, Colour: colour, Age: age}
}

// as is the same object of another kind.
func as(kind int, s api.Seen) api.Seen {
	s.Thing.Kind = kind
	return s
}

func inc(phase, white int, seen ...api.Seen) api.View {
	return api.View{Mode: api.ModeInc, Phase: phase, White: white, Seen: seen}
}

func gen(white int, seen ...api.Seen) api.View {
	return api.View{Mode: api.ModeGen, White: white, Seen: seen}
}

// at is what is told of one object.
func at(h int, slots ...int) []api.Wrong {
	var l []api.Wrong
	for _, s := range slots {
		l = append(l, api.Wrong{H: h, Slot: s})
	}
	return l
}

func check(t *testing.T, name string, v api.View, want ...[]api.Wrong) {
	t.Helper()
	if got, all := ages.Audit(v), slices.Concat(want...); !slices.Equal(got, all) {
		t.Errorf("%s: Audit of %v: %v, want %v", name, v, got, all)
	}
}

// otherOf is the white that the current one is not.
func otherOf(white int) int { return api.White0 + api.White1 - white }

// bothWhites does something with each of them as the current white, and with the other one.
func bothWhites(do func(current, other int)) {
	do(api.White0, api.White1)
	do(api.White1, api.White0)
}
