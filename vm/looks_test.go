package vm_test

import (
	"math"
	"slices"
	"strings"
	"testing"

	"heirloom/api"
	"heirloom/vm"
)

// A machine that no call made: zero answers; Over is true.
func TestP15_3Nil(t *testing.T) {
	for _, m := range []*vm.VM{nil, {}} {
		for _, n := range []int{math.MinInt, -1, 0, 1, 9, math.MaxInt} {
			check(t, "Step", m.Step(n), 0)
		}
		m.Collect()
		check(t, "Over", m.Over(), true)
		check(t, "Verdict", m.Verdict(), 0)
		check(t, "Error", m.Error(), "")
		if !zero(m.Lines()) || !zero(m.View()) || !zero(m.Roots()) {
			t.Errorf("%v, %v, %v", m.Lines(), m.View(), m.Roots())
		}
		a, b, c := m.Free()
		d, e, f := m.Counts()
		check(t, "Free and Counts", [6]int{a, b, c, d, e, f}, [6]int{})
		m.Collect()
		check(t, "Step", m.Step(1), 0)
	}
}

// Step does at most n instructions; fewer than there are, as many, and more.
func TestP15_2Step(t *testing.T) {
	p := compiled(t, `emit(1) emit(2)`)
	all := len(p.Protos[0].Code)
	m := open(t, p, 3000)
	for _, n := range []int{0, -1, math.MinInt} {
		check(t, "Step", m.Step(n), 0)
		check(t, "Over", m.Over(), false)
	}
	check(t, "Step", m.Step(3), 3)
	check(t, "lines", strings.Join(m.Lines(), "|"), "1")
	check(t, "Verdict", m.Verdict(), api.Runs)
	check(t, "Step", m.Step(0), 0)
	check(t, "Step", m.Step(math.MaxInt), all-3)
	check(t, "lines", strings.Join(m.Lines(), "|"), "1|2")
	check(t, "Verdict", m.Verdict(), api.Done)
	check(t, "Over", m.Over(), true)
	for _, n := range []int{0, 1, -1, math.MaxInt} {
		check(t, "Step behind the end", m.Step(n), 0)
	}
	m = open(t, p, 3000)
	check(t, "Step", m.Step(all), all)
	check(t, "Over", m.Over(), true)
	m = open(t, p, 3000)
	check(t, "Step", m.Step(all-1), all-1)
	check(t, "Over", m.Over(), false)
	check(t, "Step", m.Step(2), 1)
}

// An instruction that throws is one, also where nobody catches.
func TestP15_2StepsOfErrors(t *testing.T) {
	for src, want := range map[string]int{
		``:                      1,
		`error("x")`:            3,
		`pcall(error, "x")`:     5,
		`return pcall(error)`:   3,
		`local a = 1 // 0`:      3,
		`local a = nil a.x = 1`: 5,
		`local f = function() error("x") end pcall(f)`: 8,
	} {
		o := played(t, compiled(t, src), 3000)
		check(t, src, o.steps, want)
	}
}

// What is handed out is the caller's own.
func TestP15_3OwnMemory(t *testing.T) {
	m := open(t, compiled(t, `emit(1) emit("b") local t = {1, 2} emit(t[1])`), 3000)
	m.Step(9)
	lines, roots, view := m.Lines(), m.Roots(), m.View()
	want, wantRoots, wantSeen := slices.Clone(lines), slices.Clone(roots), len(view.Seen)
	clear(lines)
	clear(roots)
	for i := range view.Seen {
		clear(view.Seen[i].Thing.Slots)
	}
	clear(view.Seen)
	_ = append(lines[:0], "x", "y")
	if !slices.Equal(m.Lines(), want) || !slices.Equal(m.Roots(), wantRoots) || len(m.View().Seen) != wantSeen {
		t.Errorf("%v, %v", m.Lines(), m.Roots())
	}
	m.Step(manySteps)
	check(t, "lines", strings.Join(m.Lines(), "|"), "1|b|1")
}

func TestP15_3Verdicts(t *testing.T) {
	for _, c := range []struct {
		src     string
		size    int
		verdict int
		failure string
	}{
		{`emit(1)`, 3000, api.Done, ""},
		{`return 1, 2`, 3000, api.Done, ""},
		{`error("why")`, 3000, api.Failed, "why"},
		{`error(nil)`, 3000, api.Failed, "nil"},
		{`error(emit)`, 3000, api.Failed, "native 0"},
		{`local t = {} for i = 1, 2000 do t[i] = {} end`, 3000, api.Spent, ""},
		{`local s = "x" while true do s = s .. s end`, 1000, api.Spent, ""},
		{`local s = "x" while true do s = s .. s end`, 60000, api.Failed, "error 3"},
	} {
		m := open(t, compiled(t, c.src), c.size)
		check(t, c.src, m.Verdict(), api.Runs)
		check(t, c.src, m.Error(), "")
		m.Step(manySteps)
		check(t, c.src, m.Verdict(), c.verdict)
		check(t, c.src, m.Error(), c.failure)
		check(t, c.src, m.Over(), true)
	}
}

// Where there is no room the verdict is Spent: nobody catches it, nothing more is done, no finaliser either.
func TestP15_3Spent(t *testing.T) {
	for _, src := range []string{
		`local held = setmeta({}, {__gc = function() emit("no") end}) local ok, e = pcall(function() local t = {} for i = 1, 2000 do t[i] = {} end end) emit("no", ok, e)`,
		`local held = setmeta({}, {__gc = emit}) local g = create(function() local t = {} for i = 1, 2000 do t[i] = "a" .. i end end) emit("no", resume(g))`,
		`local s = "a" local function f() s = s .. s .. s .. s return f() end emit("no", pcall(f))`,
		`local t = setmeta({}, {__index = function(t, k) t[k] = {} return t[k + 1] end}) emit("no", pcall(function() return t[1] end))`,
		`local l = {} local function f(i) l[i] = create(f) resume(l[i], i + 1) end while true do pcall(f, #l + 1) end emit("no")`,
		`local f f = function(n) local g = function() return n end return f(g) end f(1)`,
	} {
		m := open(t, compiled(t, src), 520)
		steps := m.Step(manySteps)
		if m.Verdict() != api.Spent || !m.Over() || len(m.Lines()) > 0 || m.Error() != "" {
			t.Errorf("%s: %v", src, outcomeOf(m, steps))
		}
		view := m.View()
		check(t, "Step", m.Step(99), 0)
		check(t, "objects", len(m.View().Seen), len(view.Seen))
		checkRules(t, src, m)
		checkTight(t, src, m)
		check(t, "Step", m.Step(99), 0)
		check(t, "Verdict", m.Verdict(), api.Spent)
		// The instruction for which there was no room is one of those that were done.
		again := open(t, compiled(t, src), 520)
		check(t, "Step", again.Step(steps-1), steps-1)
		check(t, "Verdict", again.Verdict(), api.Runs)
		check(t, "Step", again.Step(5), 1)
		check(t, "Verdict", again.Verdict(), api.Spent)
	}
}

// An error's own string may find no room.
func TestP15_3SpentByAnError(t *testing.T) {
	src := `local t = {} local ok, e = pcall(function() return nil + 1 end) emit(ok, e)`
	p := compiled(t, src)
	least := 0
	for size := 300; size < 600; size++ {
		m, err := vm.New(p, size)
		if err != api.OK {
			continue
		}
		m.Step(manySteps)
		if m.Verdict() == api.Done {
			least = size
			break
		}
		check(t, "verdict", m.Verdict(), api.Spent)
		check(t, "lines", len(m.Lines()), 0)
	}
	check(t, "there is a least size", least > 300, true)
}

// Collect is Major, and then Compact: also when the machine is over.
func TestP15_3Collect(t *testing.T) {
	p := compiled(t, `local a = {} local t = {{}, {}, {}} t = nil a = nil local b = {} emit(1) emit(2)`)
	m := open(t, p, 3000)
	stepToLine(m, 1)
	tables := len(things(m, api.TTable))
	m.Collect()
	live, top, gap := m.Free()
	check(t, "tables ahead", tables, 7)
	check(t, "tables", len(things(m, api.TTable)), 2) // b, the globals; registers behind hold none of t's
	check(t, "top", top, live)
	check(t, "gap", gap, 3000-live)
	m.Step(manySteps)
	check(t, "lines", strings.Join(m.Lines(), "|"), "1|2")
	m.Collect()
	check(t, "tables", len(things(m, api.TTable)), 1)
	// What it finds to be finalised is so at the next place.
	m = open(t, compiled(t, `local function f() setmeta({}, {__gc = function() emit("gone") end}) end f() local n = 1 n = n + 1 n = n + 1 n = n + 1 local t = {} emit("on")`), 3000)
	for range 40 {
		m.Step(1)
		m.Collect()
	}
	m.Step(manySteps)
	check(t, "lines", strings.Join(m.Lines(), "|"), "gone|on")
}

// Counts: what was made, marked, and how often there was no room. Free hangs on what lives.
func TestP15_3Counts(t *testing.T) {
	m := open(t, compiled(t, `for i = 1, 100 do local t = {} local s = "a" .. i end setmeta({}, {__gc = 5})`), 600)
	m.Step(manySteps)
	made, marked, urgent := m.Counts()
	check(t, "made", made, 4+100+2)
	check(t, "marked", marked, 1)
	check(t, "urgent", urgent > 0, true)
	m = open(t, compiled(t, `for i = 1, 100 do local t = {} local s = "a" .. i end`), api.MaxCells)
	before, _, _ := m.Free()
	m.Step(manySteps)
	live, top, gap := m.Free()
	check(t, "live", live > before-50 && live < before+50, true) // the end is a Major
	check(t, "top", top <= live+gap && gap <= api.MaxCells-live, true)
	_, _, urgent = m.Counts()
	check(t, "urgent", urgent, 0)
}
