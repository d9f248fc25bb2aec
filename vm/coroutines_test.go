package vm_test

import (
	"fmt"
	"slices"
	"testing"

	"heirloom/api"
)

func TestP15_2Create(t *testing.T) {
	checkRows(t,
		row{src: `local g = create(function() end) emit(type(g), status(g))`, lines: "thread suspended"},
		row{src: `create()`, failure: "error 10"},
		row{src: `create(emit)`, failure: "error 10"},
		row{src: `create(setmeta({}, {__call = emit}))`, failure: "error 10"},
		row{src: `create("a")`, failure: "error 10"},
	)
}

func TestP15_2Resume(t *testing.T) {
	checkRows(t,
		row{src: `local g = create(function(a, b, c) emit(a, b, c) return 4, 5 end) local x, y, z, u = resume(g, 1, 2) emit(x, y, z, u, status(g))`, lines: "1 2 nil|true 4 5 nil dead"},
		row{src: `local g = create(function(a) emit(a) end) local x, y = resume(g, 1, 2, 3) emit(x, y)`, lines: "1|true nil"},
		row{src: `local g = create(function() local a, b = yield(1, 2) emit(a, b) local c = yield() emit(c) return 9 end) local o, x, y = resume(g, 7) emit(o, x, y, status(g)) o, x = resume(g, 3, 4) emit(o, x) o, x = resume(g) emit(o, x, status(g))`, lines: "true 1 2 suspended|3 4|true nil|nil|true 9 dead"},
		row{src: `local g = create(function() return yield(1) end) local a, b = resume(g) local c, d, e = resume(g, 5, 6) emit(a, b, c, d, e, status(g))`, lines: "true 1 true 5 6 dead"},
		row{src: `local g = create(function() yield() end) local a, b = resume(g) emit(a, b) a, b = resume(g) emit(a, b) a, b = resume(g) emit(a, b)`, lines: "true nil|true nil|false error 9"},
		row{src: `local g = create(function(x) for i = 1, x do yield(i * i) end return "end" end) local ok, v = resume(g, 3) while status(g) ~= "dead" do emit(v) ok, v = resume(g) end emit(v)`, lines: "1|4|9|end"},
		row{src: `resume()`, failure: "error 10"},
		row{src: `resume(5)`, failure: "error 10"},
		row{src: `resume(function() end)`, failure: "error 10"},
		row{src: `resume({})`, failure: "error 10"},
	)
}

// In any order.
func TestP15_2ManyCoroutines(t *testing.T) {
	checkRows(t,
		row{src: `local function gen(n) return create(function() for i = 1, 3 do yield(n .. i) end end) end local a, b, c = gen("a"), gen("b"), gen("c") local function go(g) local ok, v = resume(g) emit(v) end go(a) go(b) go(a) go(c) go(b) go(a) go(a) go(c) go(a)`, lines: "a1|b1|a2|c1|b2|a3|nil|c2|error 9"},
		row{src: `local inner = create(function(x) emit("in", x) local y = yield(x + 1) emit("in", y) return y + 1 end) local outer = create(function(x) local ok, v = resume(inner, x) local w = yield(v) local ok2, u = resume(inner, w) return u end) local ok, v = resume(outer, 1) emit(v) ok, v = resume(outer, 5) emit(v, status(inner), status(outer))`, lines: "in 1|2|in 5|6 dead dead"},
		row{src: `local g g = create(function() local h = create(function() emit(status(g)) yield() end) resume(h) emit(status(h)) yield() emit(status(g)) resume(h) emit(status(h)) end) resume(g) emit(status(g)) resume(g)`, lines: "normal|suspended|suspended|running|dead"},
		row{src: `local function walk(t) if t then walk(t.l) yield(t.v) walk(t.r) end end local tree = {v = 2, l = {v = 1}, r = {v = 4, l = {v = 3}}} local g = create(walk) local ok, v = resume(g, tree) while v do emit(v) ok, v = resume(g) end`, lines: "1|2|3|4"},
	)
}

// Of one that is dead, running or normal, and of itself.
func TestP15_2NotSuspended(t *testing.T) {
	checkRows(t,
		row{src: `local g = create(function() end) resume(g) local a, b = resume(g) emit(a, b, status(g))`, lines: "false error 9 dead"},
		row{src: `local g = create(error) `, failure: "error 10"},
		row{src: `local g = create(function() error("x") end) local a, b = resume(g) emit(a, b, status(g)) a, b = resume(g) emit(a, b)`, lines: "false x dead|false error 9"},
		row{src: `local g g = create(function() local a, b = resume(g) emit(a, b, status(g)) end) resume(g)`, lines: "false error 9 running"},
		row{src: `local g g = create(function() local h = create(function() local a, b = resume(g) emit(a, b, status(g)) end) resume(h) end) resume(g)`, lines: "false error 9 normal"},
		row{src: `local g = create(function() yield() end) close(g) local a, b = resume(g) emit(a, b)`, lines: "false error 9"},
		row{src: `local g = create(function() end) resume(g) local a, b, c = pcall(resume, g) emit(a, b, c)`, lines: "true false error 9"},
	)
}

// MaxNest coroutines, and one more.
func TestP15_2Nest(t *testing.T) {
	src := `local n = 1 local function f() n = n + 1 local ok, a, b = resume(create(f)) if ok then return a, b end return n, a end local ok, a, b = resume(create(f)) emit(ok, a, b)`
	checkRows(t,
		row{src: src, lines: fmt.Sprintf("true %d error 14", api.MaxNest)},
		row{src: src + ` n = 1 ok, a, b = resume(create(f)) emit(ok, a, b)`, lines: "true 40 error 14|true 40 error 14"},
		row{src: `local function deep(n) if n == 0 then return "deep" end local ok, v, w = resume(create(deep), n - 1) if ok then return v, w end return ok, v end local a, b = deep(39) emit(a, b) a, b = deep(40) emit(a, b)`, lines: "deep nil|false error 14"},
	)
	// Those that are suspended do not count.
	checkRows(t, row{src: `local l = {} for i = 1, 60 do l[i] = create(function() yield() end) resume(l[i]) end emit(status(l[60]))`, lines: "suspended"})
}

func TestP15_2Yield(t *testing.T) {
	checkRows(t,
		row{src: `yield(1)`, failure: "error 9"},
		row{src: `local a, b = pcall(yield, 1) emit(a, b)`, lines: "false error 9"},
		row{src: `local g = create(function() local a, b, c = pcall(yield, 1, 2) emit(a, b, c) end) local x, y, z = resume(g) emit(x, y, z) resume(g, 3, 4)`, lines: "true 1 2|true 3 4"},
		row{src: `local g = create(function() local a, b = pcall(function() yield(1) error("late") end) emit(a, b) return 5 end) resume(g) local a, b = resume(g) emit(a, b)`, lines: "false late|true 5"},
		row{src: `local g = create(function() local t = setmeta({}, {__index = function(t, k) return yield(k) end}) emit(t.a, t.b) end) local o, v = resume(g) emit(v) o, v = resume(g, 1) emit(v) resume(g, 2)`, lines: "a|b|1 2"},
		row{src: `local g = create(function() local t = setmeta({}, {__index = yield, __lt = yield, __newindex = yield}) emit(rawequal(t.a, 1), t < t, t < 1) t.x = 5 return rawget(t, "x") end) resume(g) resume(g, 1) resume(g, 0) resume(g) local a, b = resume(g, 8) emit(a, b)`, lines: "true true false|true nil"},
		row{src: `local g = create(function() local ok, a = pcall(pcall, yield, 1) emit(ok, a) end) resume(g) resume(g, 2)`, lines: "true true"},
	)
}

// The want of a resume is that of any call: of a call in a tail, of a handler, within pcall.
func TestP15_2WantOfResume(t *testing.T) {
	checkRows(t,
		row{src: `local g = create(function() yield(1, 2) error("x") end) local function f() return resume(g) end local a, b, c = f() emit(a, b, c) a, b, c = f() emit(a, b, c) a, b, c = f() emit(a, b, c)`, lines: "true 1 2|false x nil|false error 9 nil"},
		row{src: `local g = create(function() yield(1) error("x") end) local a, b, c = pcall(resume, g) emit(a, b, c) a, b, c = pcall(resume, g) emit(a, b, c)`, lines: "true true 1|true false x"},
		row{src: `local g = create(function() yield(1) end) local t = setmeta({}, {__index = function(t, k) return resume(k) end, __eq = function() return resume(g) end}) emit(t[g], t[g], t[g])`, lines: "true true false"},
		row{src: `local g = create(function(t) while true do yield() end end) local m = {__eq = resume, __index = resume} resume(g) local ok, e = pcall(function() return setmeta({}, m) == {} end) emit(ok, e)`, lines: "false error 10"},
		row{src: `local g g = create(function() return resume(create(function() return yield(1), 2 end)) end) local a, b, c = resume(g) emit(a, b, c)`, lines: "true true 1"},
		row{src: `return resume(create(function() emit("in") end))`, lines: "in"},
	)
}

func TestP15_2Status(t *testing.T) {
	checkRows(t,
		row{src: `status()`, failure: "error 10"},
		row{src: `status({})`, failure: "error 10"},
		row{src: `local g g = create(function() emit(status(g)) end) emit(status(g)) resume(g) emit(status(g))`, lines: "suspended|running|dead"},
	)
}

func TestP15_2Close(t *testing.T) {
	checkRows(t,
		row{src: `local g = create(function() yield() emit("no") end) resume(g) emit(close(g), status(g)) emit(close(g), status(g), resume(g))`, lines: "true dead|true dead false"},
		row{src: `local g = create(function() emit("no") end) emit(close(g), status(g), resume(g))`, lines: "true dead false"},
		row{src: `local g g = create(function() local ok, e = pcall(close, g) emit(ok, e, status(g)) close(g) end) local ok, e = resume(g) emit(ok, e, status(g), close(g))`, lines: "false error 9 running|false error 9 dead true"},
		row{src: `local g g = create(function() resume(create(function() local ok, e = pcall(close, g) emit(ok, e, status(g)) end)) end) resume(g)`, lines: "false error 9 normal"},
		row{src: `close()`, failure: "error 10"},
		row{src: `close(1)`, failure: "error 10"},
		row{src: `local g = create(function() pcall(function() yield() end) end) resume(g) emit(close(g)) local a, b = close(g) emit(a, b)`, lines: "true|true nil"},
	)
}

// What a coroutine that is closed held is held no more, its own function neither; one that ended by itself has that still.
func TestP15_2ClosedHoldsNothing(t *testing.T) {
	for _, r := range []struct {
		src          string
		tables, regs int
	}{
		{`g = create(function() local t = {} yield() end) resume(g) emit(1) close(g)`, 1, 0},
		{`g = create(function() local t = {} yield() end) resume(g) emit(1)`, 2, 1},
		{`g = create(function() local t = {} yield() end) resume(g) resume(g) emit(1)`, 1, 1},
		{`g = create(function() local t = {} error("x") end) resume(g) emit(1)`, 1, 1},
	} {
		m := open(t, compiled(t, r.src), 3000)
		for m.Verdict() == api.Runs {
			m.Step(1)
		}
		checkTight(t, r.src, m)
		check(t, r.src+": tables", len(things(m, api.TTable)), r.tables)
		check(t, r.src+": closures", len(things(m, api.TFunc)), r.regs)
	}
}

// The roots are the threads of the coroutine that runs, of who resumed it, and so on.
func TestP15_2Roots(t *testing.T) {
	m := open(t, compiled(t, `local a = create(function() local b = create(function() emit(3) yield() emit(3) end) emit(2) resume(b) emit(2) yield() emit(2) resume(b) emit(2) end) emit(1) resume(a) emit(1) resume(a) emit(1)`), 3000)
	var first, depths []int
	for lines := 0; !m.Over(); {
		m.Step(1)
		if l := m.Lines(); len(l) > lines && !m.Over() {
			lines = len(l)
			roots := threads(m)
			depths = append(depths, len(roots))
			first = append(first, int(roots[len(roots)-1].N))
			check(t, "depth", fmt.Sprint(len(roots)), l[lines-1])
		}
	}
	if want := []int{1, 2, 3, 2, 1, 2, 3, 2, 1}; !slices.Equal(depths, want) {
		t.Errorf("how many threads are roots: %v, want %v", depths, want)
	}
	if len(slices.Compact(first)) != 1 {
		t.Errorf("the first coroutine: %v", first)
	}
}

// Coroutines come and go in little room: what nobody holds gives its room back, and a thread that comes to lie where another one was begins anew.
func TestP15_5ManyComeAndGo(t *testing.T) {
	t.Parallel()
	p := compiled(t, `local n = 0 for i = 1, 300 do local g = create(function(a) local b = yield(a) n = n + b end) resume(g, i) if i % 2 == 0 then resume(g, i) end end emit(n)`)
	want := played(t, p, api.MaxCells)
	check(t, "lines", fmt.Sprint(want.lines), fmt.Sprint([]string{"22650"}))
	for _, points := range manyWays() {
		for _, size := range []int{460, 500, 700} {
			if o := played(t, p, size, points...); !same(o, want) {
				t.Errorf("%d cells: %v", size, o)
			}
		}
	}
}
