package vm_test

import (
	"fmt"
	"strings"
	"testing"

	"heirloom/api"
)

func TestP15_2Index(t *testing.T) {
	checkRows(t,
		row{src: `local t = setmeta({a = 1}, {__index = {a = 2, b = 3}}) emit(t.a, t.b, t.c)`, lines: "1 3 nil"},
		row{src: `local t = setmeta({}, {__index = function(t, k) return k .. "!" end}) emit(t.x, t[1], rawget(t, "x"))`, lines: "x! 1! nil"},
		row{src: `local t = {} setmeta(t, {__index = function(u, k) return rawequal(u, t) end}) emit(t.x)`, lines: "true"},
		row{src: `local a, b = {}, {} setmeta(a, {__index = b}) setmeta(b, {__index = function(u, k) return rawequal(u, b) end}) emit(a.x)`, lines: "true"},
		row{src: `local t = setmeta({}, {__index = function() end}) emit(t.x)`, lines: "nil"},
		row{src: `local t = setmeta({}, {__index = function() return 1, 2 end}) local a, b = t.x emit(a, b)`, lines: "1 nil"},
		row{src: `local t = setmeta({}, {__index = type}) emit(t.x)`, lines: "table"},
		row{src: `local t = setmeta({}, {__index = rawequal}) emit(t[t], t.x)`, lines: "true false"},
		row{src: `local t = setmeta({}, {__index = 5}) emit(t.x)`, failure: "error 10"},
		row{src: `local t = setmeta({}, {__index = false}) emit(t.x)`, failure: "error 10"},
		row{src: `local t = setmeta({}, {}) emit(t.x)`, lines: "nil"},
		row{src: `local t = setmeta({x = false}, {__index = error}) emit(t.x)`, lines: "false"},
		row{src: `local t = setmeta({}, {__index = error}) emit(pcall(function() return t.x end)) local ok, e = pcall(function() return t.x end) emit(ok, rawequal(e, t))`, lines: "false|false true"},
		row{src: `local t = setmeta({}, {__index = function(t, k) return k end}) emit(t[nil])`, lines: "nil"},
		row{src: `local m = {} local t = setmeta({}, m) setmeta(m, {__index = function() return 1 end}) emit(t.x)`, lines: "nil"}, // what a metatable has is looked for without its own
	)
}

func TestP15_2NewIndex(t *testing.T) {
	checkRows(t,
		row{src: `local u = {} local t = setmeta({a = 1}, {__newindex = u}) t.a = 2 t.b = 3 emit(t.a, t.b, u.a, u.b)`, lines: "2 nil nil 3"},
		row{src: `local t = {} setmeta(t, {__newindex = function(u, k, v) emit(rawequal(u, t), k, v) return 1 end}) t.x = 5 emit(t.x)`, lines: "true x 5|nil"},
		row{src: `local t = setmeta({}, {__newindex = rawset}) t.x = 5 emit(t.x)`, lines: "5"},
		row{src: `local a, b = {}, {} setmeta(a, {__newindex = b}) setmeta(b, {__newindex = function(u, k, v) emit(rawequal(u, b), k, v) end}) a.x = 1`, lines: "true x 1"},
		row{src: `local t = setmeta({}, {__newindex = 5}) t.x = 1`, failure: "error 10"},
		row{src: `local t = setmeta({}, {__newindex = function(u, k, v) error(k) end}) t.x = 1`, failure: "x"},
		row{src: `local t = setmeta({}, {__newindex = function(u, k, v) emit(k, v) end}) t[nil] = 1 t[0 / 0] = nil`, lines: "nil 1|0f7ff8000000000001 nil"},
		row{src: `local t = setmeta({}, {}) t[nil] = 1`, failure: "error 13"},
		row{src: `local x = 7 local f = function() local t = setmeta({}, {__newindex = function() return 1, 2, 3 end}) local a, b = 8, 9 t.x = 5 return x, a, b end local g = create(f) local p, q, r, s = resume(g) emit(p, q, r, s) p, q, r = f() emit(p, q, r)`, lines: "true 7 8 9|7 8 9"}, // nobody has its answers
		row{src: `local u = {} local t = setmeta({}, {__newindex = u, __index = u}) t.a = 1 t.a = t.a + 1 emit(t.a, rawget(t, "a"), u.a)`, lines: "2 nil 2"},
	)
}

// MaxChain tables are asked one behind the other, and no more; so it is with __call.
func TestP15_2Chains(t *testing.T) {
	chain := func(event string, n int, last string) string {
		return fmt.Sprintf(`local t = {%s} for i = 2, %d do t = setmeta({}, {%s = t}) end `, last, n, event)
	}
	most := api.MaxChain
	checkRows(t,
		row{src: chain("__index", most, "x = 7") + `emit(t.x, t.y)`, lines: "7 nil"},
		row{src: chain("__index", most+1, "x = 7") + `emit(t.x)`, failure: "error 14"},
		row{src: chain("__index", most+1, "x = 7") + `rawset(t, "x", 8) emit(t.x, pcall(function() return t.y end))`, lines: "8 false"},
		row{src: chain("__newindex", most, "") + `t.x = 7 emit(rawget(t, "x"))`, lines: "nil"},
		row{src: chain("__newindex", most+1, "") + `t.x = 7`, failure: "error 14"},
		row{src: `local t = {} setmeta(t, {__index = t, __newindex = t}) emit(pcall(function() return t.x end), pcall(function() t.x = 1 end)) local ok, e = pcall(function() return t.x end) emit(e)`, lines: "false false|error 14"},
		row{src: `local f = function(t, k) return k end local t = setmeta({}, {__index = f}) for i = 2, 20 do t = setmeta({}, {__index = t}) end emit(t.x) t = setmeta({}, {__index = t}) emit(t.x)`, lines: "x", failure: "error 14"},
		row{src: `local f = function(a, b) emit(type(a), type(b)) end for i = 1, 20 do f = setmeta({}, {__call = f}) end f(1)`, lines: "table table"},
		row{src: `local f = function() return 5 end for i = 1, 20 do f = setmeta({}, {__call = f}) end emit(f()) f = setmeta({}, {__call = f}) emit(f())`, lines: "5", failure: "error 14"},
		row{src: `local f = {} setmeta(f, {__call = f}) f()`, failure: "error 14"},
		row{src: `local f = 5 for i = 1, 20 do f = setmeta({}, {__call = f}) end f()`, failure: "error 10"},
		row{src: `local f = 5 for i = 1, 21 do f = setmeta({}, {__call = f}) end f()`, failure: "error 14"},
		row{src: `local f = {} for i = 1, 20 do f = setmeta({}, {__call = f}) end f()`, failure: "error 10"},
	)
}

func TestP15_2Call(t *testing.T) {
	checkRows(t,
		row{src: `local t = setmeta({}, {__call = function(t, a, b) return type(t), a, b end}) local x, y, z = t(1, 2) emit(x, y, z)`, lines: "table 1 2"},
		row{src: `local t = setmeta({}, {__call = emit}) t(1, "a")`, lines: "table 4 1 a"},
		row{src: `local t = setmeta({}, {__call = 5}) t()`, failure: "error 10"},
		row{src: `local t = setmeta({}, {}) t()`, failure: "error 10"},
		row{src: `local u = {} local t = setmeta({}, {__call = u}) setmeta(u, {__call = function(a, b, c) return rawequal(a, u), rawequal(b, t), c end}) local x, y, z = t(3) emit(x, y, z)`, lines: "true true 3"},
	)
}

func TestP15_2Operators(t *testing.T) {
	t.Parallel()
	signs := []struct{ event, sign string }{
		{"__add", "+"}, {"__sub", "-"}, {"__mul", "*"}, {"__div", "/"}, {"__idiv", "//"}, {"__mod", "%"}, {"__concat", ".."}, {"__lt", "<"}, {"__le", "<="},
	}
	for _, s := range signs {
		truth := strings.HasPrefix(s.event, "__l")
		said := func(v, is string) string {
			if truth {
				return is
			}
			return v
		}
		src := fmt.Sprintf(`local a = setmeta({}, {%s = function(x, y) emit(type(x), type(y)) return "a" end}) local b = setmeta({}, {%s = function(x, y) return false end}) `, s.event, s.event)
		checkRows(t,
			row{src: fmt.Sprintf(src+`emit(a %s a)`, s.sign), lines: "table table|" + said("a", "true")},
			row{src: fmt.Sprintf(src+`emit(a %s 1)`, s.sign), lines: "table number|" + said("a", "true")},
			row{src: fmt.Sprintf(src+`emit(nil %s a)`, s.sign), lines: "nil table|" + said("a", "true")},
			row{src: fmt.Sprintf(src+`emit(a %s b, "x" %s b)`, s.sign, s.sign), lines: "table table|" + said("a", "true") + " false"},
			row{src: fmt.Sprintf(src+`emit(b %s a)`, s.sign), lines: "false"},
			row{src: fmt.Sprintf(src+`emit({} %s a)`, s.sign), lines: "table table|" + said("a", "true")},
			row{src: fmt.Sprintf(src+`emit({} %s {})`, s.sign), failure: "error 10"},
			row{src: fmt.Sprintf(`local a = setmeta({}, {%s = 5}) emit(a %s a)`, s.event, s.sign), failure: "error 10"},
			row{src: fmt.Sprintf(`local a = setmeta({}, {%s = false}) local b = setmeta({}, {%s = function() return 1 end}) emit(a %s b)`, s.event, s.event, s.sign), failure: "error 10"},
			row{src: fmt.Sprintf(`local a = setmeta({}, {%s = function() return nil, 1 end}) emit(a %s a)`, s.event, s.sign), lines: said("nil", "false")},
			row{src: fmt.Sprintf(`local a = setmeta({}, {%s = function() end}) emit(a %s a)`, s.event, s.sign), lines: said("nil", "false")},
			row{src: fmt.Sprintf(`local a = setmeta({}, {%s = function() return 0 end}) emit(a %s a)`, s.event, s.sign), lines: said("0", "true")},
			row{src: fmt.Sprintf(`local a = setmeta({}, {%s = setmeta({}, {__call = function(h, x, y) return type(h) .. type(x) .. type(y) end})}) emit(a %s 1)`, s.event, s.sign), lines: said("tabletablenumber", "true")},
			row{src: fmt.Sprintf(`local a = setmeta({}, {%s = rawequal}) emit(a %s a, a %s 1)`, s.event, s.sign, s.sign), lines: "true false"},
			row{src: fmt.Sprintf(`local a = setmeta({}, {%s = pcall}) emit(a %s error)`, s.event, s.sign), lines: "false"},
		)
	}
	checkRows(t,
		row{src: `local a = setmeta({}, {__lt = function(x, y) return 1 end}) emit(a > 1, 1 > a) emit(a <= 1)`, lines: "true true", failure: "error 10"},
		// What numbers and strings say goes ahead of handlers: they are asked where the types are wrong alone.
		row{src: `local a = setmeta({}, {__idiv = function() return "h" end}) emit(a // 0, 1 // a, a // 1.5) emit(1 // 0)`, lines: "h h h", failure: "error 11"},
	)
}

func TestP15_2One(t *testing.T) {
	checkRows(t,
		row{src: `local a a = setmeta({}, {__unm = function(x, y) emit(rawequal(x, a), rawequal(y, a)) return "neg" end}) emit(-a)`, lines: "true true|neg"},
		row{src: `local a = setmeta({}, {__len = function(x, y) emit(type(x), y) return "len" end}) emit(#a, rawlen(a))`, lines: "table nil|len 0"},
		row{src: `local a = setmeta({}, {__len = 5}) emit(#a)`, failure: "error 10"},
		row{src: `local a = setmeta({}, {__unm = 5}) emit(-a)`, failure: "error 10"},
		row{src: `local a = setmeta({}, {}) emit(#a) emit(-a)`, lines: "0", failure: "error 10"},
		row{src: `local a = setmeta({1, 2}, {__len = type}) emit(#a)`, lines: "table"},
	)
}

func TestP15_2Eq(t *testing.T) {
	eq := `local m = {__eq = function(x, y) emit(type(x), type(y)) return 0 end} local a, b, c = setmeta({}, m), setmeta({}, m), {} `
	checkRows(t,
		row{src: eq + `emit(a == b)`, lines: "table table|true"},
		row{src: eq + `emit(a ~= b)`, lines: "table table|false"},
		row{src: eq + `emit(a == a, a == 1, a == nil, rawequal(a, b))`, lines: "true false false false"},
		row{src: eq + `emit(c == a)`, lines: "table table|true"},
		row{src: eq + `emit(c == {})`, lines: "false"},
		row{src: `local a, b = setmeta({}, {__eq = function() return 1 end}), setmeta({}, {__eq = function() end}) emit(a == b, b == a)`, lines: "true false"},
		row{src: `local a = setmeta({}, {__eq = 5}) emit(a == {})`, failure: "error 10"},
		row{src: `local a = setmeta({}, {__eq = error}) emit(a == {})`, failure: "table 4"},
		row{src: `local a = setmeta({}, {__eq = pcall}) emit(a == {})`, lines: "false"},
		row{src: `local a = setmeta({}, {__eq = pcall, __call = function() end}) emit(a == {})`, lines: "true"}, // true is put ahead of no answers
		row{src: `local a = setmeta({}, {__eq = false}) emit(a == setmeta({}, {__eq = emit}))`, failure: "error 10"},
	)
}

// A handler runs behind the registers of the function that runs, which stay as they are.
func TestP15_2HandlersBehind(t *testing.T) {
	checkRows(t,
		row{src: `local a, b, c, d = 1, 2, 3, setmeta({}, {__add = function(x, y) local p, q, r, s = 9, 9, 9, 9 return p end}) local e = (d + 1) + (d + (d + 2)) emit(a, b, c, e)`, lines: "1 2 3 18"},
		row{src: `local t = setmeta({}, {__index = function(t, k) if k == 0 then return 0 end return t[k - 1] + 1 end}) emit(t[30])`, lines: "30"},
		row{src: `local t = setmeta({}, {__index = function(t, k) return t[k + 1] end}) emit(pcall(function() return t[1] end)) local ok, e = pcall(function() return t[1] end) emit(e)`, lines: "false|error 14"},
	)
}
