package run_test

import (
	"fmt"
	"math/rand"
	"slices"
	"strings"
	"testing"

	"heirloom/api"
	"heirloom/run"
)

// P0.5: at the end, and between: what was marked last comes first; what the globals hold is not finalised.
func TestP0_5Rows(t *testing.T) {
	const fin = `local m = {__gc = function(o) emit("gone", o[1]) end} local function fin(x) return setmeta({x}, m) end `
	checkRows(t,
		row{src: fin + `local a, b, c = fin(1), fin(2), fin(3) emit("end")`, lines: "end|gone 3|gone 2|gone 1"},
		row{src: fin + `local a, b, c = fin(1), fin(2), fin(3) error("x")`, lines: "gone 3|gone 2|gone 1", failure: "x"},
		row{src: fin + `local c, b, a = fin(1), fin(2), fin(3) local t = {b, {c, a}} emit("end")`, lines: "end|gone 3|gone 2|gone 1"},
		row{src: fin + `g = fin(1) local a = fin(2) h = {x = {fin(3)}} emit("end")`, lines: "end|gone 2"},
		row{src: fin + `g = fin(1) local a = fin(2) g = a m = nil emit("end")`, lines: "end|gone 1"},
		row{src: fin + `local a = fin(1) f = function() return a end local b = fin(2) emit("end")`, lines: "end|gone 2"},
		row{src: fin + `local a = fin(1) local f = function() return a end g = create(function() local b = fin(2) yield() emit(f()[1]) end) resume(g) emit("end")`, lines: "end"},
		row{src: fin + `local g = create(function() local b = fin(2) yield() emit(b) end) resume(g) emit("end")`, lines: "end|gone 2"},
		row{src: fin + `g = create(function() local b = fin(2) error(b) end) local ok, e = resume(g) emit(ok, e[1])`, lines: "false 2|gone 2"},
		row{src: fin + `local a = fin(1) setmeta(a, m) setmeta(a, m) emit("end")`, lines: "end|gone 1"},
		row{src: fin + `local a, b = fin(1), fin(2) setmeta(a, m) emit("end")`, lines: "end|gone 2|gone 1"},                                                                                                // marked once: it is where it was
		row{src: fin + `local n = 0 m.__gc = function(o) n = n + 1 if n < 5 then setmeta(o, m) end end local function f() fin(1) end f() for i = 1, 20 do collect() local t = {} end emit(n)`, lines: "5"}, // once a mark
		row{src: fin + `m.__gc = function(o) emit("gone", o[1]) g = o end local a = fin(1) emit("end")`, lines: "end|gone 1"},
		row{src: fin + `setmeta({}, {__gc = 1}) setmeta({}, {__gc = error}) local a = fin(1) setmeta({}, {__gc = function() error("lost") end})`, lines: "gone 1"},
	)
	between := []row{
		{src: fin + `m.__gc = function(o) emit("gone", o[1]) if o[1] > 1 then fin(o[1] - 1) end end local a, b = fin(1), fin(3) emit("end")`, lines: "end|gone 3|gone 1"},
		{src: fin + `local n = 0 m.__gc = function(o) n = n + 1 emit(n) if n < 5 then setmeta(o, m) end end local a = fin(1) emit("end")`, lines: "end|1"},
		{src: fin + `g = create(function() local b = fin(2) yield() emit(b) end) resume(g) close(g) emit("end")`, lines: "end|gone 2"},
		{src: fin + `local function f() fin(1) fin(2) fin(3) end f() collect() for i = 1, 9 do local t = {} end emit("end")`, lines: "gone 3|gone 2|gone 1|end"},
		{src: fin + `local a = fin(0) local function f() local b, c = fin(1), {fin(2)} collect() emit(b[1], c[1][1]) return c end local d = f() collect() for i = 1, 9 do local t = {} end emit(d[1][1], a[1])`, lines: "1 2|gone 1|2 0|gone 2|gone 0"},
		{src: fin + `local function f() setmeta(fin(1), {__gc = function(o) emit("other", o[1]) end}) end f() collect() for i = 1, 9 do local t = {} end emit("end")`, lines: "other 1|end"},
	}
	for _, r := range between {
		check(t, r.src, strings.Join(run.Play(roomy(r.src)).Lines, "|"), r.lines)
	}
}

// A story is a source in which objects are marked, held and let go, with the lines that it puts out if nothing is collected but where it asks for that.
type story struct {
	src   string
	lines []string
	marks int             // objects that are marked, but those that globals hold at the end
	held  map[string]bool // by globals, at the end
	last  map[int]bool    // held by a local at the end, and by no global
}

// madeStory: objects stand in places of tables: of one that a local has, of another one that a global has.
func madeStory(r *rand.Rand) story {
	var b strings.Builder
	s := story{held: map[string]bool{}, last: map[int]bool{}}
	b.WriteString(`local l, m, on = {}, {}, 1 g = {} local function put(t, k, n) t[k] = setmeta({n, t[k + 1]}, m) end local function drop(t, k) t[k] = nil end local function drain() collect() for i = 1, 60 do local t = {} end end m.__gc = function(o) emit("gone", o[1], on) end `)
	at := map[string][]int{} // places' objects, and what these hold
	var marked []int
	number := 0
	gone := func() {
		alive := map[int]bool{}
		for _, l := range at {
			for _, n := range l {
				alive[n] = true
			}
		}
		for _, n := range slices.Backward(marked) {
			if !alive[n] {
				s.lines = append(s.lines, fmt.Sprint("gone ", n, " 1"))
			}
		}
		marked = slices.DeleteFunc(marked, func(n int) bool { return !alive[n] })
	}
	for range 5 + r.Intn(40) {
		table, k := []string{"l", "g"}[r.Intn(2)], 1+r.Intn(5)
		place := fmt.Sprint(table, k)
		switch r.Intn(6) {
		case 0, 1, 2:
			number++
			marked = append(marked, number)
			at[place] = append([]int{number}, at[fmt.Sprint(table, k+1)]...)
			fmt.Fprintf(&b, "put(%s, %d, %d) ", table, k, number)
		case 3, 4:
			delete(at, place)
			fmt.Fprintf(&b, "drop(%s, %d) ", table, k)
		case 5:
			b.WriteString("drain() ")
			gone()
		}
	}
	b.WriteString(`on = 2 emit("end")`)
	s.lines = append(s.lines, "end")
	for k, l := range at {
		if k[0] == 'l' {
			for _, n := range l {
				s.last[n] = slices.Contains(marked, n)
			}
			delete(at, k)
		}
	}
	ended := len(s.lines)
	gone()
	for i := ended; i < len(s.lines); i++ { // what the finaliser says by then
		s.lines[i] = strings.TrimSuffix(s.lines[i], "1") + "2"
	}
	s.src, s.marks = b.String(), number-len(marked)
	for _, n := range marked {
		s.held[fmt.Sprint(n)] = true
	}
	return s
}

// P0.5: each object that is marked is finalised once, not while it is held, what was marked last first.
func TestP0_5Stories(t *testing.T) {
	t.Parallel()
	r := rand.New(rand.NewSource(5))
	for range 80 {
		s := madeStory(r)
		x := run.Play(api.Scene{Size: 20000, Steps: api.MaxSteps, Source: s.src})
		if !slices.Equal(x.Lines, s.lines) || x.Verdict != api.Done {
			t.Fatalf("%s\n%s, want\n%q", s.src, shown(x), s.lines)
		}
		for range 4 {
			scene := api.Scene{Size: 20000, Steps: api.MaxSteps, Points: anyPoints(r), Source: s.src}
			if r.Intn(2) == 0 {
				scene.Size = least(s.src) + 300 + r.Intn(300)
			}
			checkStory(t, s, run.Play(scene))
		}
	}
}

// checkStory: with points things may be gone sooner, but each just once, and not if a global holds it.
func checkStory(t *testing.T, s story, x api.Trace) {
	t.Helper()
	if x.Verdict == api.Spent {
		return
	}
	seen := map[string]bool{}
	last := ""
	for _, line := range x.Lines {
		words := strings.Fields(line)
		if words[0] == "end" {
			last = line
			continue
		}
		if seen[words[1]] || s.held[words[1]] {
			t.Fatalf("%s\n%s: %s once more, or while it is held", s.src, shown(x), line)
		}
		seen[words[1]] = true
	}
	check(t, s.src+": it ends", last, "end")
	check(t, s.src+": all are gone but those that globals hold", len(seen), s.marks)
	ended := slices.Index(x.Lines, "end")
	var numbers []int
	for _, line := range x.Lines[ended+1:] {
		var n int
		fmt.Sscanf(line, "gone %d 2", &n)
		if s.last[n] {
			numbers = append(numbers, -n)
		}
	}
	check(t, s.src+": at the end what was marked last comes first", slices.IsSorted(numbers), true)
}

// P0.5: an object that is held at the time is not finalised, whatever is collected: what its finaliser would put out tells.
func TestP0_5NotWhileHeld(t *testing.T) {
	t.Parallel()
	r := rand.New(rand.NewSource(55))
	const src = `local m, held = {}, {} m.__gc = function(o) if held[o[1]] then emit("held", o[1]) else emit("fine", o[1]) end end
local function make(n) local o = setmeta({n}, m) held[n] = true return o end
local function use(n, o) if o[1] ~= n then emit("other", n) end held[n] = nil end
local function pass(n) local o = make(n) local t = {{o}} o = nil local g = create(function() local own = t t = nil yield(1) return own[1][1] end) resume(g) local p = {g} g = nil for i = 1, 4 do local x = {i} end local ok, o = resume(p[1]) p = nil for i = 1, 3 do local x = {} end use(n, o) end
for n = 1, 25 do pass(n) end`
	for range 60 {
		x := run.Play(api.Scene{Size: 5000, Steps: api.MaxSteps, Points: slices.Repeat(anyPoints(r), 5), Source: src})
		fine := 0
		for _, line := range x.Lines {
			if strings.HasPrefix(line, "fine") {
				fine++
			}
		}
		if x.Verdict != api.Done || fine != 25 || len(x.Lines) != 25 {
			t.Fatal(shown(x))
		}
	}
}
