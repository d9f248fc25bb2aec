package run_test

import (
	"fmt"
	"slices"
	"strings"
	"testing"

	"heirloom/api"
	"heirloom/code"
	"heirloom/run"
	"heirloom/vm"
)

const (
	maxInt = int(^uint(0) >> 1)
	minInt = -maxInt - 1
)

func of(kind int, n ...int) api.Point { return api.Point{Kind: kind, N: append(n, 0)[0]} }

// many is a point, as often as a scene may have it.
func many(kind int, n ...int) []api.Point {
	return slices.Repeat([]api.Point{of(kind, n...)}, api.MaxPoints)
}

// roomy is a scene of a source, with all the room and all the steps that there are.
func roomy(src string, points ...api.Point) api.Scene {
	return api.Scene{Size: api.MaxCells, Steps: api.MaxSteps, Points: points, Source: src}
}

func check[T comparable](t *testing.T, name string, got, want T) {
	t.Helper()
	if got != want {
		t.Errorf("%s: %v, want %v", name, got, want)
	}
}

// checkTrace: all that came of it is as it should be.
func checkTrace(t *testing.T, name string, got, want api.Trace) {
	t.Helper()
	if !same(got, want) {
		t.Errorf("%s:\n%s, want\n%s", name, shown(got), shown(want))
	}
}

func same(a, b api.Trace) bool {
	return slices.Equal(a.Lines, b.Lines) && a.E == b.E && a.At == b.At && a.Verdict == b.Verdict && a.Error == b.Error && a.Steps == b.Steps && a.Made == b.Made && a.Urgent == b.Urgent
}

// sameButUrgent: so are traces in unlike room, and with unlike points.
func sameButUrgent(a, b api.Trace) bool {
	a.Urgent, b.Urgent = 0, 0
	return same(a, b)
}

func shown(x api.Trace) string {
	return fmt.Sprintf("E %d at %d, verdict %d, lines %q, error %q, %d steps, %d made, %d urgent", x.E, x.At, x.Verdict, x.Lines, x.Error, x.Steps, x.Made, x.Urgent)
}

// least is the size from which on a source is not refused: what it has at its beginning, or somewhat more.
func least(src string) int {
	p, _, _ := code.Compile(src)
	m, _ := vm.New(p, 8000)
	size, _, _ := m.Free()
	for {
		if _, e := vm.New(p, size); e == api.OK {
			return size
		}
		size++
	}
}

// begins: a list goes on from another one.
func begins(l, first []string) bool {
	return len(l) >= len(first) && slices.Equal(l[:len(first)], first)
}

// A row is a source, with the lines that it puts out, parted by |, and the text of the error that nobody catches.
type row struct{ src, lines, failure string }

// checkRows: each source does what its row says, whatever the collector does.
func checkRows(t *testing.T, l ...row) {
	t.Helper()
	for _, r := range l {
		verdict := api.Done
		if r.failure != "" {
			verdict = api.Failed
		}
		for _, points := range manyWays() {
			x := run.Play(roomy(r.src, points...))
			if got := strings.Join(x.Lines, "|"); x.E != api.OK || got != r.lines || x.Error != r.failure || x.Verdict != verdict {
				t.Fatalf("%s\n%s, want\n%s, %q, verdict %d", r.src, shown(x), r.lines, r.failure, verdict)
			}
		}
	}
}

// manyWays are none, and points of all kinds.
func manyWays() [][]api.Point {
	mixed := []api.Point{of(api.PointStep, 1), of(api.PointNone), of(api.PointMode, 1), of(api.PointYoung), of(api.PointCompact), of(api.PointYoung), of(api.PointMajor), of(api.PointMode, 0), of(api.PointStep, 7)}
	return [][]api.Point{
		nil, many(api.PointMajor), many(api.PointStep, 1), many(api.PointStep, 30), many(api.PointCompact),
		append(many(api.PointMode, 1)[:1], many(api.PointYoung)[1:]...),
		slices.Repeat(mixed, 300),
	}
}
