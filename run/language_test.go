package run_test

import (
	"math/rand"
	"testing"

	"heirloom/api"
	"heirloom/run"
)

// P0.1, P0.7: what a source does is what one who walks its tree tells, whatever the collector does, and however many steps are done.
func TestP0_7Walked(t *testing.T) {
	t.Parallel()
	r := rand.New(rand.NewSource(7))
	verdicts := map[int]int{}
	for range 200 {
		src := madeSource(r, r.Intn(2) == 0, false)
		whole := walked(src, 4000)
		if whole.E != api.OK {
			continue
		}
		verdicts[whole.Verdict]++
		for i := range 5 {
			x := api.Scene{Size: 40000, Steps: 4000, Points: anyPoints(r), Source: src}
			want := whole
			if i > 1 {
				x.Steps = r.Intn(whole.Steps + 2)
				want = walked(src, x.Steps)
			}
			if got := run.Play(x); !sameButUrgent(got, want) {
				t.Fatalf("%s, %d steps\n%s, want\n%s", src, x.Steps, shown(got), shown(want))
			}
		}
	}
	check(t, "some are done, some failed", verdicts[api.Done] > 40 && verdicts[api.Failed] > 40, true)
}

// P0.7: closures share the variables that they hold, and each round of a loop has its own.
func TestP0_7Closures(t *testing.T) {
	t.Parallel()
	checkRows(t,
		row{src: `local function counter() local n = 0 return {up = function() n = n + 1 return n end, down = function() n = n - 1 return n end} end local a, b = counter(), counter() emit(a.up(), a.up(), b.up(), a.down(), b.down())`, lines: "1 2 1 1 0"},
		row{src: `local l = {} for i = 1, 3 do l[i] = function() i = i + 10 return i end end emit(l[1](), l[1](), l[2](), l[3]())`, lines: "11 21 12 13"},
		row{src: `local l, i = {}, 0 while i < 3 do i = i + 1 local j = i l[i] = function() j = j + i return j end end emit(l[1](), l[2](), l[3](), l[1]())`, lines: "4 5 6 7"},
		row{src: `local function f(n) if n == 0 then return function() return 0 end end local g = f(n - 1) return function() n = n + g() return n end end local h = f(4) emit(h(), h())`, lines: "10 20"},
		row{src: `local x = 1 local function f() local x = x + 1 local function g() x = x * 2 return x end return g end local g = f() emit(g(), g(), x)`, lines: "4 8 1"},
		row{src: `local function even(n) if n == 0 then return true end return odd(n - 1) end odd = function(n) if n == 0 then return false end return even(n - 1) end emit(even(50), odd(50), even(7))`, lines: "true false false"},
		row{src: `local a = 1 local f = function(a, b) a = a + 1 return function() b = (b or 0) + a return b end end local g = f(a) emit(g(), g(), a, f(5, 1)())`, lines: "2 4 1 7"},
		row{src: `local function loop(n) if n == 0 then return "end" end return loop(n - 1) end emit(loop(500))`, lines: "end"},
	)
}

// P0.7: coroutines go on where they stopped, in whatever they are.
func TestP0_7Coroutines(t *testing.T) {
	t.Parallel()
	checkRows(t,
		row{src: `local function walk(n) if n then walk(n.l) yield(n.v) walk(n.r) end end local t = {v = 4, l = {v = 2, l = {v = 1}, r = {v = 3}}, r = {v = 5}} local g = create(walk) local ok, v = resume(g, t) while v do emit(v) ok, v = resume(g) end emit(ok, status(g))`, lines: "1|2|3|4|5|true dead"},
		row{src: `local g = create(function(a, b) local c, d = yield(a + b) emit(c, d) local ok, e = pcall(function() local x = yield({}) error(x) end) emit(ok, e) return 1, 2, 3 end) local ok, x = resume(g, 1, 2) emit(ok, x) ok, x = resume(g, 3) emit(ok, type(x)) local a, b, c, d = resume(g, "lost") emit(a, b, c, d) emit(resume(g)) local ok, e = resume(g) emit(e)`, lines: "true 3|3 nil|true table|false lost|true 1 2 3|false|error 9"},
		row{src: `local g g = create(function() emit(status(g)) local h = create(function() emit(status(g)) local ok, e = resume(g) emit(ok, e) local ok, e = pcall(close, g) emit(ok, e) end) resume(h) emit(status(h)) end) emit(status(g)) resume(g) emit(status(g))`, lines: "suspended|running|normal|false error 9|false error 9|dead|dead"},
		row{src: `local function nest(n) local g = create(nest) local ok, e = resume(g, n + 1) if e then emit(n, e) end end nest(1)`, lines: "40 error 14"},
		row{src: `emit(pcall(yield, 1)) yield(2)`, lines: "false", failure: "error 9"},
		row{src: `local g = create(function() yield(1) end) resume(g) emit(close(g), status(g)) local ok, e = resume(g) emit(ok, e)`, lines: "true dead|false error 9"},
		row{src: `local function gen(f) return create(function() for i = 1, 3 do yield(f(i)) end end) end local a, b = gen(function(i) return i end), gen(function(i) return {i} end) for i = 1, 4 do local ok, x = resume(a) local is, y = resume(b) emit(x, y and y[1]) end`, lines: "1 1|2 2|3 3|nil nil"},
		row{src: `local g = create(function() local t = setmeta({}, {__index = function(t, k) return yield(k) end, __lt = function() return yield("lt") end}) emit(t.x, t < t) end) local ok, k = resume(g) emit(k) ok, k = resume(g, "value") emit(k) resume(g, 1)`, lines: "x|lt|value true"},
	)
}

// P0.7: an error comes to the innermost one who asked for it, with what was thrown; what runs is left on the way.
func TestP0_7Errors(t *testing.T) {
	t.Parallel()
	checkRows(t,
		row{src: `local ok, e = pcall(function() local ok, e = pcall(error, {1}) emit(ok, e[1]) error("outer") end) emit(ok, e)`, lines: "false 1|false outer"},
		row{src: `local ok, e, f = pcall(pcall, error, 5) emit(ok, e, f)`, lines: "true false 5"},
		row{src: `local function try(f, x) local ok, e = pcall(f, x) emit(ok, e) end try(function(x) return x + 1 end, 1) try(function(x) return x + 1 end, "a") try(function(x) return x.y end) try(function(x) return x() end, 5) try(function(x) return x // 0 end, 1) try(function(x) return x % 1.5 end, 0.5) try(function(x) x[nil] = 1 end, {}) try(function(x) return next({}, x) end, 1) try(function(x) return x < 1 end, "a") try(error) try(error, false)`, lines: "true 2|false error 10|false error 10|false error 10|false error 11|false error 12|false error 13|false error 13|false error 10|false nil|false false"},
		row{src: `local n = 0 local function f() n = n + 1 return 1 + f() end local ok, e = pcall(f) emit(ok, e, n) n = 0 ok, e = pcall(f) emit(n)`, lines: "false error 14 59|59"},
		row{src: `local x = {} error(x)`, failure: "table 4"},
		row{src: `error(nil)`, failure: "nil"},
		row{src: `error(1.5)`, failure: "0f3ff8000000000000"},
		row{src: `error(emit)`, failure: "native 0"},
		row{src: `emit("a") local t = nil t.x = 1 emit("b")`, lines: "a", failure: "error 10"},
		row{src: `local g = create(function() error("in") end) emit(resume(g)) local ok, e = resume(create(function() return 1 + nil end)) emit(ok, e)`, lines: "false|false error 10"},
		row{src: `local l = {} for i = 1, 20 do local ok, e = pcall(function() local t = {i} if i % 3 == 0 then error(t) end return t end) l[i] = e end local s = 0 for i = 1, 20 do s = s + l[i][1] end emit(s)`, lines: "210"},
	)
}

// P0.7: tables, numbers and texts.
func TestP0_7Values(t *testing.T) {
	t.Parallel()
	checkRows(t,
		row{src: `local t = {} for i = 1, 40 do t[i] = i t["k" .. i] = -i end for i = 1, 40, 2 do t[i] = nil t["k" .. i + 1] = nil end local n, s = 0, 0 local k, v = next(t) while k ~= nil do n = n + 1 s = s + v k, v = next(t, k) end emit(n, s, #t, t[40], t.k39)`, lines: "40 20 0 40 -39"},
		row{src: `local t = {10, 20, x = 1, [3] = 30} emit(#t, rawlen(t), t[1.0], t["1"], t.x, t[0f4008000000000000])`, lines: "3 3 10 nil 1 30"},
		row{src: `local k, t = {}, {} for i = 1, 30 do k[i] = {} t[k[i]] = i end local s = 0 for i = 1, 30 do s = s + t[k[i]] end emit(s, t[{}])`, lines: "465 nil"},
		row{src: `emit(7 // 2, -7 // 2, 7 % -2, 7 / 2, 2 * 0.5, 9223372036854775807 + 1, 1 == 1.0, 0.1 + 0.2 == 0.3)`, lines: "3 -4 -1 0f400c000000000000 0f3ff0000000000000 -9223372036854775808 true false"},
		row{src: `emit(1 < 1.5, "a" < "b", "Z" < "a", "" < "\x00", 0 / 0 == 0 / 0, 1 / 0 > 9223372036854775807)`, lines: "true true true true false true"},
		row{src: `emit("a" .. 1 .. 1.5, #"abc", "a" == "a", type("a" .. "b"), tostring(12) .. "", tostring(nil))`, lines: "a10f3ff8000000000000 3 true string 12 nil"},
		row{src: `local s = "" for i = 1, 200 do s = s .. i % 10 end local n = 0 for i = 1, 200 do local u = "" for j = 1, 3 do u = u .. i end if u == i .. i .. "" .. i then n = n + 1 end end emit(#s, n)`, lines: "200 200"},
		row{src: `local a, b = "x" .. 1, "x1" emit(rawequal(a, b), a == b, ({[a] = 5})[b])`, lines: "true true 5"},
		row{src: `local m = {} m.__index = m m.__add = function(a, b) return setmeta({v = a.v + b.v}, m) end m.__eq = function(a, b) return a.v == b.v end m.__lt = function(a, b) return a.v < b.v end m.__call = function(a, x) return a.v * x end m.__len = function(a) return a.v end m.__unm = function(a) return -a.v end m.__concat = function(a, b) return "cat" end function new(v) return setmeta({v = v}, m) end local a, b = new(3), new(4) emit((a + b).v, a == b, a == new(3), a < b, a > b, a(5), #b, -a, a .. 1, 1 .. b, getmeta(a) == m, rawlen(a))`, lines: "7 false true true false 15 4 -3 cat cat true 0"},
	)
}
