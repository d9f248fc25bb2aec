package run_test

import (
	"fmt"
	"math/rand"
	"slices"
	"testing"

	"heirloom/ages"
	"heirloom/api"
	"heirloom/code"
	"heirloom/run"
	"heirloom/vm"
)

// busy is a plain source that makes objects of all kinds, writes young ones into old ones, and looks at all of them once more at the end.
const busy = `local old, log, n = {}, {}, 0
local function note(x) n = n + 1 log[n] = x end
local function gen(name) return create(function(x) local seen = {} while true do seen[#seen + 1] = x x = yield(name .. #seen, seen) end end) end
local gens = {gen("a"), gen("b")}
for i = 1, 7 do
  local cell = {i, {i * i}}
  old["k" .. i % 4] = cell
  if i > 4 then old["k" .. i % 3].next = cell end
  local ok, text, seen = resume(gens[1 + i % 2], cell)
  note(text) note(function() cell[1] = cell[1] + 1 return cell[1], seen end)
  note({pcall(function(x) if x % 3 == 0 then error({text}) end return x end, i)})
end
local sum = 0
for i = 1, n do
  local x = log[i]
  if type(x) == "function" then local a, b = x() sum = sum + a * #b elseif type(x) == "table" then emit(i, x[1]) else emit(i, x) end
end
emit(sum, old.k0[1], old.k1.next[2][1], status(gens[1]), rawlen(log))
error(old.k2)`

// P0.2: a plain source does the same whatever the collector does: points of each kind at each of its places, and all others none.
func TestP0_2EachPlace(t *testing.T) {
	t.Parallel()
	x := api.Scene{Size: 4000, Steps: api.MaxSteps, Source: busy}
	want := run.Play(x)
	if want.Verdict != api.Failed || len(want.Lines) != 15 || want.Urgent != 0 {
		t.Fatal(shown(want))
	}
	kinds := []api.Point{of(api.PointStep, 1), of(api.PointStep, 40), of(api.PointYoung), of(api.PointMajor), of(api.PointMode, 1), of(api.PointMode, 0), of(api.PointCompact)}
	for place := range 300 {
		for _, p := range kinds {
			x.Points = append(slices.Repeat([]api.Point{{}}, place), p)
			if place%2 == 1 { // by generations, and behind some steps of a cycle
				x.Points[0] = of(api.PointMode, 1)
			} else if place > 20 {
				x.Points[place-9] = of(api.PointStep, 3*place)
			}
			if got := run.Play(x); !same(got, want) {
				t.Fatalf("%v at %d:\n%s, want\n%s", p, place, shown(got), shown(want))
			}
		}
	}
}

// P0.2: whatever it does at all of them.
func TestP0_2AllPlaces(t *testing.T) {
	t.Parallel()
	r := rand.New(rand.NewSource(2))
	sources := []string{busy}
	for range 40 {
		sources = append(sources, madeSource(r, false, false))
	}
	for _, src := range sources {
		check(t, src, run.Plain(src), true)
		x := api.Scene{Size: 30000, Steps: 3000, Source: src}
		want := run.Play(x)
		for _, x.Points = range append(manyWays(), many(api.PointStep, 3), many(api.PointStep, 200), slices.Repeat([]api.Point{of(api.PointMode, 1), of(api.PointYoung), of(api.PointYoung), of(api.PointMode, 0), of(api.PointStep, 11)}, 700)) {
			if got := run.Play(x); !sameButUrgent(got, want) {
				t.Fatalf("%s, %v ..\n%s, want\n%s", src, x.Points[:min(5, len(x.Points))], shown(got), shown(want))
			}
		}
	}
}

// P0.3: no rule is broken at any time, in scenes of all kinds.
func TestP0_3Rules(t *testing.T) {
	t.Parallel()
	phases := map[[2]int]int{}
	for seed := range 100 {
		x := anyScene(int64(seed))
		if seed%30 == 0 {
			x.Source = busy
		}
		if seed%3 == 0 {
			x.Points = many(api.PointStep, 1+seed/3)
		}
		p, _, _ := code.Compile(x.Source)
		m, e := vm.New(p, x.Size, x.Points...)
		for n := 0; e == api.OK && n < 400 && !m.Over(); n++ {
			m.Step(1)
			v := m.View()
			phases[[2]int{v.Mode, v.Phase}]++
			if s := broken(v, m.Roots()); s != "" || len(ages.Audit(v)) > 0 {
				t.Fatalf("%s, step %d: %s, %v", x.Source, n, s, ages.Audit(v))
			}
		}
	}
	for _, p := range [][2]int{{api.ModeInc, api.PhaseMark}, {api.ModeInc, api.PhaseSweep}, {api.ModeGen, api.PhasePause}} {
		check(t, fmt.Sprint("views of the mode and phase ", p), phases[p] > 300, true)
	}
}

// broken tells what breaks the rules in a view: what leads where it may not.
func broken(v api.View, roots []api.Value) string {
	at := map[api.Value]api.Seen{}
	for _, s := range v.Seen {
		at[api.Value{T: s.Thing.Kind, N: int64(s.H)}] = s
	}
	other := api.White0 + api.White1 - v.White
	for _, s := range v.Seen {
		if v.Phase == api.PhaseSweep && s.Colour == other {
			continue // it is gone
		}
		for _, x := range s.Thing.Slots {
			to, is := at[x]
			switch {
			case x.T < api.TStr || x.T > api.TProto:
			case !is:
				return fmt.Sprintf("%d leads to %v, which is gone", s.H, x)
			case v.Mode == api.ModeInc && v.Phase == api.PhaseMark && s.Colour == api.Black && to.Colour <= api.White1:
				return fmt.Sprintf("%d, black, leads to %d, white", s.H, to.H)
			case v.Phase == api.PhaseSweep && to.Colour == other:
				return fmt.Sprintf("%d leads to %d, which is to be swept", s.H, to.H)
			case s.Age == api.Old && to.Age <= api.Survival || (s.Age == api.Old1 || s.Age == api.Touched2) && to.Age == api.New:
				return fmt.Sprintf("%d, old, leads to %d, young", s.H, to.H)
			}
		}
	}
	for _, x := range roots {
		if to, is := at[x]; !is || v.Phase == api.PhaseSweep && to.Colour == other {
			return fmt.Sprintf("the root %v is gone", x)
		}
	}
	return ""
}
