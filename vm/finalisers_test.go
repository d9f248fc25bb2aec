package vm_test

import (
	"fmt"
	"slices"
	"strings"
	"testing"

	"heirloom/api"
)

// fin is a source ahead of others: fin(x) makes an object that nobody holds, and whose finaliser puts out x.
const fin = `local function fin(x) setmeta({}, {__gc = function(o) emit("gone", x, type(o)) end}) end `

func TestP15_2AtTheEnd(t *testing.T) {
	checkRows(t,
		row{src: fin + `fin(1) fin(2) fin(3) emit("end")`, lines: "end|gone 3 table|gone 2 table|gone 1 table"},
		row{src: fin + `local t = setmeta({}, {__gc = function() emit("held") end}) fin(1) emit("end")`, lines: "end|gone 1 table|held"},
		row{src: fin + `fin(1) error("x")`, lines: "gone 1 table", failure: "x"},
		row{src: fin + `fin(1) return error({})`, lines: "gone 1 table", failure: "table 11"},
		row{src: fin + `g = create(function() fin(1) yield() fin(2) end) resume(g) emit("end")`, lines: "end|gone 1 table"},
		// What the globals hold is held at the end, too.
		row{src: `g = setmeta({}, {__gc = function() emit("no") end}) emit("end")`, lines: "end"},
		row{src: `local t = setmeta({}, {__gc = emit}) emit(t)`, lines: "table 4|table 4"},
		row{src: `setmeta({}, {__gc = 5}) setmeta({}, {__gc = false}) setmeta({}, {__gc = setmeta({}, {__call = function(c, o) emit(type(c), type(o)) end})}) emit("end")`, lines: "end|table table"},
	)
}

// An error in a finaliser is lost, whatever it is, and the next one comes.
func TestP15_2LostErrors(t *testing.T) {
	lost := `setmeta({}, {__gc = function() emit("in") error("x") end}) setmeta({}, {__gc = error}) setmeta({}, {__gc = 5}) local m = {__gc = emit} setmeta({}, m) m.__gc = nil setmeta({}, {__gc = function() return 1 + nil end}) setmeta({}, {__gc = function() local function f() error("deep") end f() end}) setmeta({}, {__gc = pcall}) setmeta({}, {__gc = setmeta({}, {__call = 5})}) `
	checkRows(t,
		row{src: lost + `emit("end")`, lines: "end|in"},
		row{src: `local function f() ` + lost + ` end f() for i = 1, 12 do collect() end emit("end")`, lines: "in|end"},
		row{src: `local function f() ` + lost + ` end pcall(f) local ok, e = pcall(function() for i = 1, 12 do collect() end return "fine" end) emit(ok, e)`, lines: "in|true fine"},
	)
}

// Between two instructions: one at a time, behind those that may collect alone, and none while one runs.
func TestP15_2Between(t *testing.T) {
	checkRows(t,
		row{src: fin + `fin(1) fin(2) fin(3) collect() emit("a") emit("b") emit("c") emit("d")`, lines: "gone 3 table|a|gone 2 table|b|gone 1 table|c|d"},
		row{src: fin + `fin(1) fin(2) collect() local a, b = 1, 2 a = a + b local t = {} b = a .. "x" emit(b)`, lines: "gone 2 table|gone 1 table|3x"},
		row{src: fin + `fin(1) fin(2) collect() local a = 1 for i = 1, 5 do a = a + i end if a > 3 then a = -a end emit(a)`, lines: "gone 2 table|-16|gone 1 table"},
		row{src: fin + `fin(1) fin(2) collect() local f = function() end emit("x")`, lines: "gone 2 table|gone 1 table|x"},
		row{src: fin + `fin(1) fin(2) collect() local n = 1 f = function() return n end emit("x")`, lines: "gone 2 table|gone 1 table|x"},
		row{src: `local function f() for i = 1, 3 do setmeta({}, {__gc = function() emit("in", i) local t = {} collect() emit("out", i) end}) end setmeta({}, {}) end f() collect() emit(1) emit(2) emit(3)`, lines: "in 3|out 3|1|in 2|out 2|2|in 1|out 1|3"},
		// In the function that was called just now: it runs behind that one's registers.
		row{src: fin + `local function f(a, b, c) emit(a, b, c) return c end fin(1) fin(2) fin(3) collect() local x = f(1, 2, 3) emit(x)`, lines: "gone 3 table|gone 2 table|1 2 3|gone 1 table|3"},
	)
}

// Where something was thrown, nothing comes behind the instruction.
func TestP15_2NoPointBehindErrors(t *testing.T) {
	checkRows(t,
		row{src: fin + `fin(1) fin(2) collect() pcall(error) emit("x") emit("y")`, lines: "gone 2 table|x|gone 1 table|y"},
		row{src: fin + `fin(1) fin(2) collect() pcall(pcall) pcall(5) pcall(resume) emit("x") emit("y")`, lines: "gone 2 table|x|gone 1 table|y"},
		row{src: fin + `fin(1) fin(2) collect() pcall(type) emit("x") emit("y")`, lines: "gone 2 table|gone 1 table|x|y"},
		row{src: fin + `local g = create(function() end) resume(g) fin(1) fin(2) collect() resume(g) emit("x")`, lines: "gone 2 table|gone 1 table|x"}, // false is no error
	)
}

// An object that its finaliser puts somewhere lives on, and is not finalised once more, but if it is marked once more.
func TestP15_2LivesOn(t *testing.T) {
	checkRows(t,
		row{src: `local n = 0 local function f() local t = setmeta({x = 5}, {__gc = function(o) n = n + 1 g = o end}) end f() collect() emit(n, g.x) g = nil for i = 1, 5 do collect() end emit(n)`, lines: "1 5|1"},
		row{src: `local n = 0 local m = {} m.__gc = function(o) n = n + 1 if n < 4 then setmeta(o, m) end end local function f() setmeta({}, m) end f() for i = 1, 9 do collect() local t = {} end emit(n)`, lines: "4"},
		row{src: `local n = 0 local m = {__gc = function(o) n = n + 1 end} local function f() local t = setmeta({}, m) setmeta(t, m) setmeta(t, m) end f() for i = 1, 5 do collect() end emit(n)`, lines: "1"},
	)
}

// What is marked is so when its metatable is set; what is called is what that has when it is finalised.
func TestP15_2Marked(t *testing.T) {
	for _, c := range []struct {
		src           string
		marked, lines int
	}{
		{`local m = {} setmeta({}, m) m.__gc = emit`, 0, 0},
		{`setmeta({}, {__gc = false})`, 1, 0},
		{`setmeta({}, {__gc = emit}) setmeta({}, {__gc = 1})`, 2, 1},
		{`local t = setmeta({}, {__gc = emit}) setmeta(t, {__gc = 1}) setmeta(t, {__gc = emit})`, 1, 1},
		{`setmeta({}, setmeta({}, {__index = {__gc = emit}}))`, 0, 0},
		{`pcall(setmeta, {}, 5) pcall(setmeta, 5, {__gc = 5})`, 0, 0},
	} {
		m := open(t, compiled(t, c.src), 3000)
		m.Step(manySteps)
		_, marked, _ := m.Counts()
		check(t, c.src+": marked", marked, c.marked)
		check(t, c.src+": lines", len(m.Lines()), c.lines)
	}
	checkRows(t,
		row{src: `local m = {__gc = function() emit("old") end} setmeta({}, m) m.__gc = function() emit("new") end`, lines: "new"},
		row{src: `local m = {__gc = function() emit("old") end} local t = setmeta({}, m) setmeta(t, {__gc = function() emit("new") end})`, lines: "new"},
		row{src: `local t = setmeta({}, {__gc = emit}) setmeta(t, nil)`},
	)
}

// A finaliser may do all that a function may, but yield.
func TestP15_2InAFinaliser(t *testing.T) {
	checkRows(t,
		row{src: `local function f() setmeta({}, {__gc = function() local ok, e = pcall(yield, 1) emit(ok, e) end}) end local g = create(function() f() collect() emit("on") local x = yield(7) emit(x) end) local a, b = resume(g) emit(a, b) resume(g, 8)`, lines: "false error 9|on|true 7|8"},
		row{src: `local function f() setmeta({}, {__gc = yield}) end local g = create(function() f() collect() emit("on") end) emit(resume(g), status(g))`, lines: "on|true dead"},
		row{src: `local function f() setmeta({}, {__gc = function() local h = create(function(x) local y = yield(x + 1) emit("h", y) return 3 end) local ok, v = resume(h, 1) emit(v) ok, v = resume(h, 9) emit(v) end}) end f() collect() emit("on")`, lines: "2|h 9|3|on"},
		row{src: `local g local function f() setmeta({}, {__gc = function() local h = create(function() local ok, e = pcall(close, g) emit(ok, e, status(g)) error("x") end) local ok, e = resume(h) emit(ok, e) end}) end g = create(function() f() collect() emit("on") end) resume(g)`, lines: "false error 9 normal|false x|on"},
		row{src: `local function f() setmeta({}, {__gc = function() local ok, e = pcall(error, "x") emit(ok, e) end}) end f() collect() emit("on")`, lines: "false x|on"},
		row{src: `local function f() setmeta({}, {__gc = function(o) return emit("tail", type(o)) end}) end f() collect() emit("on") f()`, lines: "tail table|on|tail table"},
		row{src: `local function f() setmeta({}, {__gc = function() local function down(n) if n == 0 then return 0 end return 1 + down(n - 1) end emit(down(57)) local ok = pcall(down, 58) emit(ok) end}) end f() collect()`, lines: "57|false"},
		row{src: fin + `setmeta({}, {__gc = function() fin(1) collect() emit("out") end})`, lines: "out|gone 1 table"}, // at the end
	)
}

// Frames and registers: a finaliser for which there is no place is lost, and what runs goes on.
func TestP15_2NoPlaceForAFinaliser(t *testing.T) {
	checkRows(t,
		row{src: fin + `local function down(n) if n == 0 then collect() emit("bottom") return 0 end local r = down(n - 1) return r end fin(1) down(58) emit("on")`, lines: "bottom|on"},
		row{src: fin + `local function down(n) if n == 0 then collect() emit("bottom") return 0 end local r = down(n - 1) return r end fin(1) down(56) emit("on")`, lines: "gone 1 table|bottom|on"},
	)
	src := `local function f() setmeta({}, {__gc = function() emit("gone") end}) end f() collect() emit("on") if nil then emit(1, 2, 3, 4, 5, 6, 7, 8, 9, 10) end`
	own := compiled(t, src).Protos[0].Regs
	for free, want := range []string{"on", "on", "on", "gone|on", "gone|on"} {
		// A closure comes behind, and the finaliser has two registers of its own.
		p := downTo(api.MaxParts-own-free, compiled(t, src).Protos...)
		checkOutcome(t, row{src: fmt.Sprint(src, ", ", free), lines: want}, played(t, p, api.MaxCells))
	}
}

// What is done behind the end without an instruction counts nothing, and is done with the last one.
func TestP15_2StepsBehindTheEnd(t *testing.T) {
	src := `local t = {1} setmeta({}, {__gc = emit}) setmeta({}, {__gc = 5}) setmeta(t, {__gc = emit})`
	p := compiled(t, src)
	count := len(p.Protos[0].Code)
	m := open(t, p, 3000)
	check(t, "Step", m.Step(count-1), count-1)
	check(t, "Over", m.Over(), false)
	check(t, "Verdict", m.Verdict(), api.Runs)
	check(t, "lines", len(m.Lines()), 0)
	check(t, "Step", m.Step(1), 1)
	check(t, "Over", m.Over(), true)
	check(t, "Verdict", m.Verdict(), api.Done)
	check(t, "lines", len(m.Lines()), 2)
	check(t, "Step", m.Step(9), 0)
	check(t, "lines", len(m.Lines()), 2)
	// Instructions of finalisers count, and the verdict is there ahead of them.
	p = compiled(t, `setmeta({}, {__gc = function() emit(1) end})`)
	m = open(t, p, 3000)
	count = len(p.Protos[0].Code)
	check(t, "Step", m.Step(count), count)
	check(t, "Verdict", m.Verdict(), api.Done)
	check(t, "Over", m.Over(), false)
	check(t, "Step", m.Step(99), len(p.Protos[1].Code))
	check(t, "Over", m.Over(), true)
}

// Behind the end the first coroutine runs, alone, and its registers are nil but for those of finalisers, which lie from the first one on.
func TestP15_2RegistersBehindTheEnd(t *testing.T) {
	for _, src := range []string{
		`local a, b, c = 1, "x", {} local function f() local x = {} error(x) end f()`,
		`local a, b, c = 1, "x", {} return a`,
		`local g = create(function() yield() end) resume(g) local t = {g} return pcall(error, t)`,
	} {
		m := open(t, compiled(t, src), 3000)
		m.Step(manySteps)
		roots := threads(m)
		check(t, src, len(roots), 1)
		for i, v := range thing(t, m, roots[0]).Slots {
			check(t, fmt.Sprint(src, ": register ", i), v, none)
		}
	}
	m := open(t, compiled(t, `local a, b, c = 1, 2, 3 setmeta({}, {__gc = function(o) local x = o emit(o) end})`), 3000)
	for m.Verdict() == api.Runs {
		m.Step(1)
	}
	regs := thing(t, m, threads(m)[0]).Slots
	if regs[0].T != api.TFunc || regs[1].T != api.TTable || slices.ContainsFunc(regs[2:], func(v api.Value) bool { return v != none }) {
		t.Errorf("registers at the beginning of a finaliser: %v", regs)
	}
	m.Step(manySteps)
	regs = thing(t, m, threads(m)[0]).Slots
	if regs[0].T != api.TFunc || slices.ContainsFunc(regs[1:], func(v api.Value) bool { return v != none }) {
		t.Errorf("registers behind it: %v", regs)
	}
}

// Where there is little room an emergency finds objects to be finalised.
func TestP15_2FinalisedInAnEmergency(t *testing.T) {
	p := compiled(t, `local n = 0 local m = {__gc = function() n = n + 1 end} for i = 1, 200 do setmeta({}, m) local t = {i, i, i} end emit(n > 100)`)
	m := open(t, p, 600)
	m.Step(manySteps)
	_, marked, urgent := m.Counts()
	check(t, "marked", marked, 200)
	if urgent == 0 || m.Verdict() != api.Done || strings.Join(m.Lines(), "|") != "true" {
		t.Errorf("%v, %d emergencies", outcomeOf(m, 0), urgent)
	}
}

func TestP15_2Weak(t *testing.T) {
	count := `local function count(w) local n, k = 0, next(w) while k ~= nil do n = n + 1 k = next(w, k) end return n end local a, b = {}, {} local function weak(mode) local w = setmeta({}, {__mode = mode}) w[a] = 1 w[{}] = 2 w[1] = b w[2] = {} w["s" .. 1] = "v" .. 1 w[b] = {} return w end `
	src := func(mode string) string {
		return count + `local w = weak(` + mode + `) collect() emit(count(w), w[a], rawequal(w[1], b), type(w[2]), w.s1, type(w[b]))`
	}
	checkRows(t,
		row{src: src(`nil`), lines: "6 1 true table v1 table"},
		row{src: src(`""`), lines: "6 1 true table v1 table"},
		row{src: src(`"x"`), lines: "6 1 true table v1 table"},
		row{src: src(`"K"`), lines: "6 1 true table v1 table"},
		row{src: src(`5`), lines: "6 1 true table v1 table"},
		row{src: src(`{}`), lines: "6 1 true table v1 table"},
		row{src: src(`"k"`), lines: "5 1 true table v1 table"},
		row{src: src(`"v"`), lines: "4 1 true nil v1 nil"},
		row{src: src(`"kv"`), lines: "3 1 true nil v1 nil"},
		row{src: src(`"vk"`), lines: "3 1 true nil v1 nil"},
		row{src: src(`"invoking"`), lines: "3 1 true nil v1 nil"},
		row{src: src(`"strong key"`), lines: "5 1 true table v1 table"},
		// It is so from setmeta on.
		row{src: count + `local m = {} local w = setmeta({}, m) local function put() w[{}] = 1 end put() m.__mode = "k" collect() emit(count(w)) setmeta(w, m) collect() emit(count(w)) setmeta(w, nil) put() collect() emit(count(w))`, lines: "1|0|1"},
		// What a value leads to alone does not hold its key.
		row{src: count + `local w = setmeta({}, {__mode = "k"}) local function put() local k = {} w[k] = {k} end put() collect() emit(count(w))`, lines: "0"},
	)
}

// A handler, and what it is called with, may be held weakly alone, and what is finalised by nothing: a collection while registers are made for it must not take them. Each source needs those behind its own for the first time then.
func TestP15_4HandlersHeldWeakly(t *testing.T) {
	t.Parallel()
	body := `function(t, k) local ` + manyLocals(50) + ` = k return a1 end`
	make := func(event, handler string) string {
		return `local function make() local m = setmeta({}, {__mode = "v"}) m.` + event + ` = ` + handler + ` return m end local t = setmeta({}, make()) `
	}
	wide := ` if nil then emit(1, 2, 3, 4, 5, 6, 7, 8, 9, 10, 11, 12, 13, 14, 15, 16, 17, 18, 19, 20) end `
	for _, r := range []row{
		{src: make("__index", body) + wide + `emit(t.x)`, lines: "x nil"},
		{src: make("__index", `setmeta({}, {__index = `+body+`})`) + wide + `emit(t.x)`, lines: "x nil"},
		{src: make("__call", body) + `emit(t(1, 2, 3, 4, 5, 6, 7, 8, 9, 10, 11, 12, 13, 14, 15, 16, 17, 18, 19, 20))`, lines: "1", failure: "error 10"},
		{src: `local m = {__gc = function(o) emit(type(o)) end} local function drop() setmeta({}, m) end drop() collect() ` + wide, lines: "table"},
	} {
		p := compiled(t, r.src)
		from := least(p)
		urgent := 0
		for size := range 250 {
			m := open(t, p, from+size)
			for !m.Over() {
				m.Step(1)
				if _, _, n := m.Counts(); n > 0 {
					checkRules(t, r.src, m)
				}
			}
			_, _, n := m.Counts()
			urgent += n
			o := outcomeOf(m, 0)
			if o.verdict == api.Done && !strings.Contains(r.lines, strings.Join(o.lines, "|")) || o.verdict == api.Failed && o.failure != r.failure {
				t.Errorf("%s, %d cells: %v", r.src, from+size, o)
			}
		}
		check(t, r.src+": some sizes bring emergencies", urgent > 0, true)
	}
}
