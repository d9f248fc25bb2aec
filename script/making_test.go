package script_test

import (
	"math/rand"
	"slices"
	"strings"
	"testing"

	"heirloom/api"
	"heirloom/script"
)

// Points by short names.
var (
	none    = api.Point{Kind: api.PointNone}
	young   = api.Point{Kind: api.PointYoung}
	major   = api.Point{Kind: api.PointMajor}
	compact = api.Point{Kind: api.PointCompact}
)

func step(n int) api.Point { return api.Point{Kind: api.PointStep, N: n} }
func mode(n int) api.Point { return api.Point{Kind: api.PointMode, N: n} }

// Points that a line tells, the edges of their numbers among them.
var rightPoints = []api.Point{none, step(0), step(1), step(9), step(10), step(999999999), young, major, mode(0), mode(1), compact}

// Points that no line tells.
var wrongPoints = []api.Point{
	{Kind: -1}, {Kind: 6}, {Kind: 7}, {Kind: 1 << 40}, {Kind: -1 << 63}, {Kind: 6, N: 1}, {Kind: -1, N: 5},
	step(-1), step(1000000000), step(1 << 40), step(-1 << 63), step(1<<63 - 1),
	mode(2), mode(-1), mode(999999999), mode(-1 << 63),
	{Kind: api.PointNone, N: 1}, {Kind: api.PointNone, N: -1},
	{Kind: api.PointYoung, N: 1}, {Kind: api.PointYoung, N: -1},
	{Kind: api.PointMajor, N: 1}, {Kind: api.PointMajor, N: 999999999},
	{Kind: api.PointCompact, N: 1}, {Kind: api.PointCompact, N: -7},
}

// Sources of any bytes: what follows the line source is no line any more.
var sources = []string{
	"", "\n", "\n\n\n", " ", "x", "emit(1)", "emit(1)\n", "source", "source\n", "source\nsource\n",
	"size 900\nsteps 50\nsource\nemit(1)", "young\nsource\n", "\r\n", "\x00", "\x00\xff\xfe\n\x80", "step x", "é\u2028 x3",
	allBytes(),
}

func allBytes() string {
	var b strings.Builder
	for c := range 256 {
		b.WriteByte(byte(c))
	}
	return b.String()
}

func repeat(p api.Point, n int) []api.Point { return slices.Repeat([]api.Point{p}, n) }

func sameScene(x, y api.Scene) bool {
	return x.Size == y.Size && x.Steps == y.Steps && x.Source == y.Source && slices.Equal(x.Points, y.Points)
}

// short tells a text for a test's message.
func short(s string) string {
	if len(s) > 200 {
		return s[:200] + ".."
	}
	return s
}

func checkScene(t *testing.T, s string, want api.Scene) {
	t.Helper()
	x, at, e := script.Parse(s)
	if e != api.OK || at != 0 || !sameScene(x, want) {
		t.Errorf("Parse(%q) = size %d, steps %d, %d points, %d bytes; %d, %v", short(s), x.Size, x.Steps, len(x.Points), len(x.Source), at, e)
	}
}

func checkFault(t *testing.T, s string, at int, e api.Errno) {
	t.Helper()
	x, gotAt, gotE := script.Parse(s)
	if gotE != e || gotAt != at {
		t.Errorf("Parse(%q): %v at %d, want %v at %d", short(s), gotE, gotAt, e, at)
	}
	if e != api.OK && (!sameScene(x, api.Scene{}) || x.Points != nil) {
		t.Errorf("Parse(%q): a scene beside an error: size %d, steps %d, %d points, %d bytes", short(s), x.Size, x.Steps, len(x.Points), len(x.Source))
	}
}

// checkModel holds Parse of a text against the model.
func checkModel(t *testing.T, s string) {
	t.Helper()
	want, at, e := modelParse(s)
	checkFault(t, s, at, e)
	if e == api.OK {
		checkScene(t, s, want)
	}
}

func checkPrint(t *testing.T, x api.Scene, want string, e api.Errno) {
	t.Helper()
	s, got := script.Print(x)
	if got != e || s != want {
		t.Errorf("Print(size %d, steps %d, %d points, %d bytes) = %q, %v, want %q, %v", x.Size, x.Steps, len(x.Points), len(x.Source), short(s), got, short(want), e)
	}
}

// anyNumber is a number from 0 to most, often one at an edge.
func anyNumber(r *rand.Rand, most int) int {
	switch r.Intn(5) {
	case 0:
		return 0
	case 1:
		return most
	case 2:
		return min(r.Intn(12), most)
	}
	return r.Intn(most + 1)
}

func anyPoint(r *rand.Rand) api.Point {
	p := api.Point{Kind: r.Intn(6)}
	switch p.Kind {
	case api.PointStep:
		p.N = anyNumber(r, 999999999)
	case api.PointMode:
		p.N = r.Intn(2)
	}
	return p
}

// anyPoints are runs of points of all lengths, seldom as many as there may be.
func anyPoints(r *rand.Rand) []api.Point {
	var l []api.Point
	for range r.Intn(12) {
		n := 1
		switch r.Intn(6) {
		case 0:
			n = 2
		case 1:
			n = 1 + r.Intn(20)
		}
		l = append(l, repeat(anyPoint(r), n)...)
	}
	if r.Intn(20) == 0 {
		l = append(l, repeat(anyPoint(r), api.MaxPoints-len(l))...)
	}
	return l
}

func anySource(r *rand.Rand) string {
	switch r.Intn(4) {
	case 0:
		return sources[r.Intn(len(sources))]
	case 1:
		return strings.Repeat(string(rune('a'+r.Intn(26))), api.MaxSource-r.Intn(2))
	}
	b := make([]byte, r.Intn(60))
	for i := range b {
		b[i] = byte(r.Intn(256))
		if r.Intn(4) == 0 {
			b[i] = '\n'
		}
	}
	return string(b)
}

// anyScene is a scene that may be.
func anyScene(r *rand.Rand) api.Scene {
	return api.Scene{
		Size:   1 + anyNumber(r, api.MaxCells-1),
		Steps:  anyNumber(r, api.MaxSteps),
		Points: anyPoints(r),
		Source: anySource(r),
	}
}
