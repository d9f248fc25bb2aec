package script_test

import (
	"math/rand"
	"slices"
	"strconv"
	"strings"
	"testing"

	"heirloom/api"
	"heirloom/script"
)

func TestP16_2Example(t *testing.T) {
	checkPrint(t, api.Scene{Size: 900, Steps: 50, Points: []api.Point{young, young, young, mode(1)}, Source: "emit(1)"},
		"size 900\nsteps 50\nyoung x3\nmode 1\nsource\nemit(1)", api.OK)
}

func TestP16_2Points(t *testing.T) {
	for _, c := range []struct {
		points []api.Point
		lines  string
	}{
		{nil, ""},
		{[]api.Point{}, ""},
		{[]api.Point{none}, "none\n"},
		{[]api.Point{step(0)}, "step 0\n"},
		{[]api.Point{step(1)}, "step 1\n"},
		{[]api.Point{step(999999999)}, "step 999999999\n"},
		{[]api.Point{young}, "young\n"},
		{[]api.Point{major}, "major\n"},
		{[]api.Point{mode(0)}, "mode 0\n"},
		{[]api.Point{mode(1)}, "mode 1\n"},
		{[]api.Point{compact}, "compact\n"},
		{[]api.Point{none, none}, "none x2\n"},
		{[]api.Point{step(0), step(0)}, "step 0 x2\n"},
		{repeat(step(30), 10), "step 30 x10\n"},
		{[]api.Point{mode(0), mode(0), mode(1), mode(1), mode(1)}, "mode 0 x2\nmode 1 x3\n"},
		{[]api.Point{step(1), step(2), step(1), step(1)}, "step 1\nstep 2\nstep 1 x2\n"},
		{[]api.Point{young, none, young, none, none, young}, "young\nnone\nyoung\nnone x2\nyoung\n"},
		{repeat(compact, 4000), "compact x4000\n"},
		{append(repeat(none, 3999), major), "none x3999\nmajor\n"},
		{append([]api.Point{major}, repeat(none, 3999)...), "major\nnone x3999\n"},
		{[]api.Point{none, step(3), young, major, mode(1), compact}, "none\nstep 3\nyoung\nmajor\nmode 1\ncompact\n"},
	} {
		checkPrint(t, api.Scene{Size: 1, Points: c.points, Source: "x"}, "size 1\nsteps 0\n"+c.lines+"source\nx", api.OK)
	}
}

func TestP16_2SourcesAndNumbers(t *testing.T) {
	for _, src := range append(sources, strings.Repeat("s", api.MaxSource)) {
		checkPrint(t, api.Scene{Size: 10, Steps: 5, Source: src}, "size 10\nsteps 5\nsource\n"+src, api.OK)
	}
	for _, n := range []int{1, 2, 9, 10, 65535, 65536} {
		checkPrint(t, api.Scene{Size: n}, "size "+strconv.Itoa(n)+"\nsteps 0\nsource\n", api.OK)
	}
	for _, n := range []int{0, 1, 10, 19999, 20000} {
		checkPrint(t, api.Scene{Size: 1, Steps: n}, "size 1\nsteps "+strconv.Itoa(n)+"\nsource\n", api.OK)
	}
}

func TestP16_2Refused(t *testing.T) {
	checkPrint(t, api.Scene{}, "", api.ErrRange)
	for _, n := range []int{0, -1, 65537, 1 << 40, -1 << 63, 1<<63 - 1} {
		checkPrint(t, api.Scene{Size: n, Steps: 5}, "", api.ErrRange)
	}
	for _, n := range []int{-1, 20001, 1 << 40, -1 << 63, 1<<63 - 1} {
		checkPrint(t, api.Scene{Size: 5, Steps: n}, "", api.ErrRange)
	}
	for _, n := range []int{4001, 4002, 10000} {
		checkPrint(t, api.Scene{Size: 5, Points: repeat(young, n)}, "", api.ErrMany)
	}
	for _, n := range []int{8193, 10000, 80000} {
		checkPrint(t, api.Scene{Size: 5, Source: strings.Repeat("s", n)}, "", api.ErrLong)
	}
	for _, p := range wrongPoints {
		for _, l := range [][]api.Point{{p}, {p, p}, {young, p}, {p, young}, {none, young, p, none}, append(repeat(step(4), 3999), p)} {
			checkPrint(t, api.Scene{Size: 5, Points: l}, "", api.ErrForm)
		}
	}
}

// What may not be at once: sizes and steps, too many points, a point, a source, in this order.
func TestP16_2FirstError(t *testing.T) {
	many, wrong, long := repeat(none, 4001), []api.Point{none, mode(2)}, strings.Repeat("s", 8193)
	both := append(slices.Clone(wrong), many...)
	for _, c := range []struct {
		x api.Scene
		e api.Errno
	}{
		{api.Scene{Size: 0, Steps: -1, Points: both, Source: long}, api.ErrRange},
		{api.Scene{Size: 1, Steps: -1, Points: both, Source: long}, api.ErrRange},
		{api.Scene{Size: 0, Steps: 1, Points: both, Source: long}, api.ErrRange},
		{api.Scene{Size: 0, Steps: 1, Points: wrong}, api.ErrRange},
		{api.Scene{Size: 1, Steps: 20001, Source: long}, api.ErrRange},
		{api.Scene{Size: 1, Points: both, Source: long}, api.ErrMany},
		{api.Scene{Size: 1, Points: both}, api.ErrMany},
		{api.Scene{Size: 1, Points: many, Source: long}, api.ErrMany},
		{api.Scene{Size: 1, Points: wrong, Source: long}, api.ErrForm},
		{api.Scene{Size: 1, Points: []api.Point{none}, Source: long}, api.ErrLong},
	} {
		checkPrint(t, c.x, "", c.e)
	}
}

// Scenes of which anything may be wrong, against the model.
func TestP16_2AnyScenes(t *testing.T) {
	r := rand.New(rand.NewSource(162))
	for range 5000 {
		x := anyScene(r)
		if r.Intn(8) == 0 {
			x.Size = r.Intn(3) * 65537
		}
		if r.Intn(8) == 0 {
			x.Steps = r.Intn(3)*20001 - 1
		}
		if len(x.Points) > 0 && r.Intn(8) == 0 {
			x.Points[r.Intn(len(x.Points))] = wrongPoints[r.Intn(len(wrongPoints))]
		}
		if r.Intn(10) == 0 {
			x.Points = append(x.Points, repeat(anyPoint(r), 4000-len(x.Points)+r.Intn(2))...)
		}
		if r.Intn(10) == 0 {
			x.Source += strings.Repeat("\n", 8192-len(x.Source)+r.Intn(2))
		}
		want, e := modelPrint(x)
		checkPrint(t, x, want, e)
	}
}

// A kind and a number, each around its edges: Print takes just the points that the model takes.
func TestP16_2AllPoints(t *testing.T) {
	for kind := -3; kind <= 9; kind++ {
		for _, n := range []int{-1 << 63, -2, -1, 0, 1, 2, 3, 9, 10, 999999998, 999999999, 1000000000, 1 << 32, 1<<63 - 1} {
			p := api.Point{Kind: kind, N: n}
			told, is := modelPoint(p)
			want, e := "", api.ErrForm
			if is {
				want, e = "size 1\nsteps 0\n"+told+"\nsource\n", api.OK
			}
			checkPrint(t, api.Scene{Size: 1, Points: []api.Point{p}}, want, e)
		}
	}
}

func TestP16_2Nothing(t *testing.T) {
	s, e := script.Print(api.Scene{Size: 1})
	if s != "size 1\nsteps 0\nsource\n" || e != api.OK {
		t.Errorf("Print of the least scene: %q, %v", s, e)
	}
}
