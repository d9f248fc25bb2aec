package script_test

import (
	"math/rand"
	"slices"
	"testing"

	"heirloom/api"
	"heirloom/script"
)

func checkShrink(t *testing.T, l, want []api.Point) {
	t.Helper()
	ahead := slices.Clone(l)
	if got := script.Shrink(l); !slices.Equal(got, want) {
		t.Errorf("Shrink(%v) = %v, want %v", l, got, want)
	}
	if !slices.Equal(l, ahead) {
		t.Errorf("Shrink changed its list: %v, was %v", l, ahead)
	}
}

func TestP16_3Shrink(t *testing.T) {
	for _, c := range []struct{ l, want []api.Point }{
		{nil, nil},
		{[]api.Point{}, nil},
		{[]api.Point{none}, nil},
		{repeat(none, 5000), nil},
		{[]api.Point{young}, []api.Point{young}},
		// Those at the end, none ahead of it.
		{[]api.Point{none, young}, []api.Point{none, young}},
		{[]api.Point{young, none}, []api.Point{young}},
		{[]api.Point{none, none, young, none, none, major, none, none}, []api.Point{none, none, young, none, none, major}},
		{[]api.Point{step(0), none}, []api.Point{step(0)}},
		{[]api.Point{mode(0), none}, []api.Point{mode(0)}},
		// Alike, with nothing between.
		{repeat(major, 2), []api.Point{major}},
		{repeat(young, 3), []api.Point{young}},
		{repeat(compact, 4000), []api.Point{compact}},
		{[]api.Point{major, none, major}, []api.Point{major, none, major}},
		{[]api.Point{young, none, none, young, young}, []api.Point{young, none, none, young}},
		{[]api.Point{major, young, major, young}, []api.Point{major, young, major, young}},
		{[]api.Point{major, major, young, young, compact, compact, major, major}, []api.Point{major, young, compact, major}},
		{[]api.Point{compact, compact, none, none}, []api.Point{compact}},
		// No others.
		{[]api.Point{step(1), step(1), step(1)}, []api.Point{step(1), step(1), step(1)}},
		{[]api.Point{step(0), step(0)}, []api.Point{step(0), step(0)}},
		{[]api.Point{mode(1), mode(1), mode(0), mode(0)}, []api.Point{mode(1), mode(1), mode(0), mode(0)}},
		{[]api.Point{young, step(0), young}, []api.Point{young, step(0), young}},
		{[]api.Point{major, mode(0), major, major}, []api.Point{major, mode(0), major}},
	} {
		checkShrink(t, c.l, c.want)
	}
}

// Points that may not be: what they are is told by their kind.
func TestP16_3WrongPoints(t *testing.T) {
	for _, p := range wrongPoints {
		checkShrink(t, []api.Point{p, none, p, p, none}, modelShrink([]api.Point{p, none, p, p, none}))
		checkShrink(t, []api.Point{young, p, p, major}, modelShrink([]api.Point{young, p, p, major}))
	}
	strange := api.Point{Kind: 6}
	checkShrink(t, []api.Point{strange, strange}, []api.Point{strange, strange})
	checkShrink(t, []api.Point{young, {Kind: api.PointNone, N: 3}}, []api.Point{young})
	checkShrink(t, []api.Point{{Kind: api.PointYoung, N: 2}, young}, []api.Point{{Kind: api.PointYoung, N: 2}})
}

// All lists of up to five points, and long ones.
func TestP16_3AllLists(t *testing.T) {
	pool := []api.Point{none, step(0), step(1), young, major, mode(0), mode(1), compact}
	var say func(l []api.Point, left int)
	say = func(l []api.Point, left int) {
		checkShrink(t, l, modelShrink(l))
		if left == 0 {
			return
		}
		for _, p := range pool {
			say(append(l[:len(l):len(l)], p), left-1)
		}
	}
	say(nil, 5)
	r := rand.New(rand.NewSource(163))
	for range 2000 {
		l := anyPoints(r)
		checkShrink(t, l, modelShrink(l))
	}
}
