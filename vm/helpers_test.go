package vm_test

import (
	"fmt"
	"math"
	"reflect"
	"slices"
	"strings"
	"testing"

	"heirloom/ages"
	"heirloom/api"
	"heirloom/code"
	"heirloom/reach"
	"heirloom/vm"
)

// manySteps is more than any program does here that ends.
const manySteps = 30000

var none = api.Value{}

func whole(n int) api.Value           { return api.Value{T: api.TInt, N: int64(n)} }
func float(f float64) api.Value       { return api.Value{T: api.TFloat, N: int64(math.Float64bits(f))} }
func leading(kind, n int) api.Value   { return api.Value{T: kind, N: int64(n)} }
func number(v api.Value) api.Const    { return api.Const{V: v} }
func letters(s string) api.Const      { return api.Const{V: api.Value{T: api.TStr}, S: s} }
func of(kind int, n ...int) api.Point { return api.Point{Kind: kind, N: append(n, 0)[0]} }

func check[T comparable](t *testing.T, name string, got, want T) {
	t.Helper()
	if got != want {
		t.Errorf("%s: %v, want %v", name, got, want)
	}
}

func compiled(t *testing.T, src string) api.Program {
	t.Helper()
	p, at, err := code.Compile(src)
	if err != api.OK {
		t.Fatalf("%s: %v at %d", src, err, at)
	}
	return p
}

func open(t *testing.T, p api.Program, size int, points ...api.Point) *vm.VM {
	t.Helper()
	m, err := vm.New(p, size, points...)
	if err != api.OK || m == nil {
		t.Fatalf("New of %d cells: %v, %v", size, m, err)
	}
	return m
}

// An outcome is what came of a program.
type outcome struct {
	lines   []string
	verdict int
	failure string
	steps   int
}

func (o outcome) String() string {
	return fmt.Sprintf("%q, verdict %d, error %q, %d steps", o.lines, o.verdict, o.failure, o.steps)
}

func same(a, b outcome) bool {
	return slices.Equal(a.lines, b.lines) && a.verdict == b.verdict && a.failure == b.failure && a.steps == b.steps
}

func outcomeOf(m *vm.VM, steps int) outcome {
	return outcome{m.Lines(), m.Verdict(), m.Error(), steps}
}

// played is what comes of a program.
func played(t *testing.T, p api.Program, size int, points ...api.Point) outcome {
	t.Helper()
	m := open(t, p, size, points...)
	return outcomeOf(m, m.Step(manySteps))
}

// many is a point, many times.
func many(kind int, n ...int) []api.Point {
	return slices.Repeat([]api.Point{of(kind, n...)}, api.MaxPoints)
}

// A case is a source, with the lines that it puts out, parted by |, and the text of the error that nobody catches.
type row struct{ src, lines, failure string }

// checkRows runs sources: without points, and by all ways in which that may make no difference.
func checkRows(t *testing.T, l ...row) {
	t.Helper()
	for _, r := range l {
		p := compiled(t, r.src)
		o := played(t, p, api.MaxCells)
		checkOutcome(t, r, o)
		if plain(p) {
			checkPlain(t, r.src, p, o)
		} else {
			checkChunks(t, r.src, p, o, of(api.PointStep, 3), of(api.PointMode, 1), of(api.PointYoung), of(api.PointMajor))
		}
		if t.Failed() {
			t.FailNow()
		}
	}
}

func checkOutcome(t *testing.T, r row, o outcome) {
	t.Helper()
	verdict := api.Done
	if r.failure != "" {
		verdict = api.Failed
	}
	if got := strings.Join(o.lines, "|"); got != r.lines || o.failure != r.failure || o.verdict != verdict {
		t.Errorf("%s:\n%s, %q, verdict %d, want\n%s, %q, verdict %d", r.src, got, o.failure, o.verdict, r.lines, r.failure, verdict)
	}
}

// plain: a program asks for no metatables, and for no collecting.
func plain(p api.Program) bool {
	return !slices.ContainsFunc(p.Protos, func(f api.Proto) bool {
		return slices.Contains(f.Consts, letters("setmeta")) || slices.Contains(f.Consts, letters("collect"))
	})
}

// manyWays are points of all kinds.
func manyWays() [][]api.Point {
	mixed := []api.Point{of(api.PointStep, 1), of(api.PointNone), of(api.PointMode, 1), of(api.PointYoung), of(api.PointCompact), of(api.PointYoung), of(api.PointMajor), of(api.PointMode, 0), of(api.PointStep, 7), of(9, 1), of(-1), of(api.PointMode, 5)}
	return [][]api.Point{
		many(api.PointMajor), many(api.PointStep, 1), many(api.PointStep, 30), many(api.PointCompact),
		append(many(api.PointMode, 1)[:1], many(api.PointYoung)...),
		slices.Repeat(mixed, 300),
	}
}

// checkPlain: P15.5, P15.6: neither points, nor the size, nor how many steps are done at once make a difference.
func checkPlain(t *testing.T, src string, p api.Program, o outcome) {
	t.Helper()
	for _, points := range manyWays() {
		if got := played(t, p, api.MaxCells, points...); !same(got, o) {
			t.Errorf("%s, with points %v ..: %v, want %v", src, points[:3], got, o)
		}
	}
	checkChunks(t, src, p, o)
}

// checkChunks: P15.4, P15.6: a program is done instruction by instruction as at once, and no rule is broken on the way. Other points are compared with themselves alone.
func checkChunks(t *testing.T, src string, p api.Program, o outcome, points ...api.Point) {
	t.Helper()
	if len(points) > 0 {
		points = slices.Repeat(points, 50)
		o = played(t, p, api.MaxCells, points...)
	}
	if o.steps > 300 {
		return // the rules of so many views take long
	}
	m := open(t, p, api.MaxCells, points...)
	steps := 0
	for !m.Over() && steps < manySteps {
		steps += m.Step(1)
		checkRules(t, src, m)
	}
	if got := outcomeOf(m, steps); !same(got, o) {
		t.Errorf("%s, step by step: %v, want %v", src, got, o)
	}
}

// checkRules: P15.4: no rule is broken; a slot that leads nowhere breaks one.
func checkRules(t *testing.T, name string, m *vm.VM) {
	t.Helper()
	v := m.View()
	if l := ages.Audit(v); len(l) > 0 {
		t.Fatalf("%s: %v break the rules in %v", name, l, v)
	}
	for _, r := range m.Roots() {
		if !slices.ContainsFunc(v.Seen, func(s api.Seen) bool { return leading(s.Thing.Kind, s.H) == r }) {
			t.Fatalf("%s: the root %v leads nowhere", name, r)
		}
	}
}

// needed tells of each object that a machine has whether its roots, and what is pending, need it.
func needed(m *vm.VM) map[int]bool {
	v := m.View()
	place := map[int]int{}
	for i, s := range v.Seen {
		place[s.H] = i + 1
	}
	other := func(l []api.Value) []api.Value {
		l = slices.Clone(l)
		for i, x := range l {
			if x.T >= api.TStr && x.T <= api.TProto {
				l[i].N = int64(place[int(x.N)])
			}
		}
		return l
	}
	g := api.Graph{Roots: other(m.Roots())}
	var pending []int
	for _, s := range v.Seen {
		thing := s.Thing
		thing.Slots = other(thing.Slots)
		g.Things = append(g.Things, thing)
	}
	for _, h := range v.Pending {
		pending = append(pending, place[h])
	}
	is := map[int]bool{}
	for i, live := range reach.Strong(g, pending...) {
		is[v.Seen[i].H] = live
	}
	return is
}

// checkTight: P15.8: behind Collect there is just what is needed, and it lies together.
func checkTight(t *testing.T, name string, m *vm.VM) {
	t.Helper()
	m.Collect()
	for h, is := range needed(m) {
		if !is {
			t.Fatalf("%s: %d is there, and nobody needs it", name, h)
		}
	}
	live, top, _ := m.Free()
	if live != top {
		t.Fatalf("%s: %d cells are live, up to %d", name, live, top)
	}
	checkRules(t, name, m)
}

// things are all objects of a kind.
func things(m *vm.VM, kind int) []api.Thing {
	var l []api.Thing
	for _, s := range m.View().Seen {
		if s.Thing.Kind == kind {
			l = append(l, s.Thing)
		}
	}
	return l
}

// thing is the object to which a value leads.
func thing(t *testing.T, m *vm.VM, v api.Value) api.Thing {
	t.Helper()
	for _, s := range m.View().Seen {
		if leading(s.Thing.Kind, s.H) == v {
			return s.Thing
		}
	}
	t.Fatalf("%v leads nowhere", v)
	return api.Thing{}
}

// threads are the roots that are coroutines, that which runs first.
func threads(m *vm.VM) []api.Value {
	return slices.DeleteFunc(m.Roots(), func(v api.Value) bool { return v.T != api.TThread })
}

// zero tells whether what a call answered says nothing.
func zero(x any) bool {
	v := reflect.ValueOf(x)
	return !v.IsValid() || v.IsZero() || v.Kind() == reflect.Slice && v.Len() == 0
}
