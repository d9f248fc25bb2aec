package vm_test

import (
	"fmt"
	"math/rand"
	"slices"
	"testing"

	"heirloom/api"
	"heirloom/vm"
)

// somePoints are points of kinds that a model knows: those that collect everything at once, or nothing.
func somePoints(r *rand.Rand) []api.Point {
	var l []api.Point
	for range r.Intn(200) {
		l = append(l, []api.Point{of(api.PointNone), of(api.PointNone), of(api.PointMajor), of(api.PointCompact), of(api.PointMode, r.Intn(3)), of(77)}[r.Intn(6)])
	}
	return l
}

// anyPoints are points of all kinds.
func anyPoints(r *rand.Rand) []api.Point {
	var l []api.Point
	for range r.Intn(400) {
		l = append(l, []api.Point{of(api.PointNone), of(api.PointStep, r.Intn(6)), of(api.PointStep, r.Intn(300)), of(api.PointYoung), of(api.PointYoung), of(api.PointMajor), of(api.PointMode, r.Intn(2)), of(api.PointCompact), of(-3)}[r.Intn(9)])
	}
	return l
}

// besideModel does a program with a machine, and with the model beside it. It tells how far it came.
func besideModel(t *testing.T, r *rand.Rand, name string, p api.Program) outcome {
	points := somePoints(r)
	w := newModel(p, points)
	m, err := vm.New(p, api.MaxCells, points...)
	if err != api.OK {
		t.Fatalf("%s: %v", name, err)
	}
	steps := 0
	for steps < 1500 && !m.Over() {
		n := 1 + r.Intn(30)
		got, want := m.Step(n), w.play(n)
		steps += got
		if _, _, urgent := m.Counts(); urgent > 0 {
			return outcome{} // the model has all the room that it likes
		}
		checkBeside(t, name, m, w, got, want)
	}
	m.Collect()
	w.major()
	checkBeside(t, name, m, w, 0, 0)
	checkObjects(t, name, m, w)
	return outcomeOf(m, steps)
}

func checkBeside(t *testing.T, name string, m *vm.VM, w *model, got, want int) {
	t.Helper()
	made, marked, _ := m.Counts()
	a := fmt.Sprintf("%q, verdict %d, error %q, over %v, %d steps, %d made, %d marked, mode %d, %d pending, %d coroutines", m.Lines(), m.Verdict(), m.Error(), m.Over(), got, made, marked, m.View().Mode, len(m.View().Pending), len(threads(m)))
	b := fmt.Sprintf("%q, verdict %d, error %q, over %v, %d steps, %d made, %d marked, mode %d, %d pending, %d coroutines", w.lines, w.verdict, w.failure, w.over, want, w.serials, w.marks, w.mode, len(w.pending), len(w.roots())-len(w.kept))
	if a != b {
		t.Fatalf("%s:\n%s, want\n%s", name, a, b)
	}
}

// checkObjects: the same objects are there, by kinds; coroutines have as many registers, and in them values of the same types.
func checkObjects(t *testing.T, name string, m *vm.VM, w *model) {
	t.Helper()
	kinds := map[int]int{}
	for _, s := range m.View().Seen {
		kinds[s.Thing.Kind]++
	}
	for _, o := range w.objects {
		kinds[o.kind]--
	}
	for k, n := range kinds {
		if n != 0 {
			t.Fatalf("%s: %d objects of the kind %d more than the model has", name, n, k)
		}
	}
	types := func(l []api.Value) []int {
		var made []int
		for _, v := range l {
			made = append(made, v.T)
		}
		return made
	}
	got, want := types(thing(t, m, threads(m)[0]).Slots), types(w.regs().slots)
	if !slices.Equal(got, want) {
		t.Fatalf("%s: registers %v, want %v", name, got, want)
	}
}

// What a source does is what the chapter says of it, word by word.
func TestP15Model(t *testing.T) {
	t.Parallel()
	r := rand.New(rand.NewSource(1500))
	lines := 0
	for i := range 900 {
		src, p := made(r, i%4 == 0)
		o := besideModel(t, r, src, p)
		lines += len(o.lines)
	}
	check(t, "many lines are put out", lines > 5000, true)
}

// So it is with instructions that nobody compiled.
func TestP15ModelByHand(t *testing.T) {
	t.Parallel()
	r := rand.New(rand.NewSource(1501))
	for range 1800 {
		p := madeByHand(r)
		besideModel(t, r, fmt.Sprintf("%+v", p.Protos[1:]), p)
	}
}
