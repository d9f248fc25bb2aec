package vm_test

import (
	"fmt"
	"strings"
	"testing"

	"heirloom/api"
	"heirloom/vm"
)

// Each native function stands in the globals by its name, with its number.
func TestP15_1NativeNumbers(t *testing.T) {
	for i, name := range nativeNames {
		checkRows(t, row{src: fmt.Sprintf(`emit(tostring(%s), type(%s))`, name, name), lines: fmt.Sprintf("native %d function", i)})
	}
	check(t, "collect", api.NatCollect, len(nativeNames)-1)
}

func TestP15_2Emit(t *testing.T) {
	checkRows(t,
		row{src: `emit() emit("") emit("", "") emit("a b", "c")`, lines: "|| |a b c"},
		row{src: `local a, b = emit(1) emit(a, b)`, lines: "1|nil nil"},
		row{src: `emit("\x00\xff\x0a")`, lines: "\x00\xff\n"},
		row{src: `emit({}, function() end, create(function() end), emit)`, lines: "table 6 function 7 thread 9 native 0"},
	)
}

// A text does not hang on what was collected: by its serial an object is told.
func TestP15_2Serials(t *testing.T) {
	checkRows(t, row{src: `for i = 1, 3 do local t = {} emit(t) end local s = "new" .. 1 emit({})`, lines: "table 4|table 5|table 6|table 7"})
	o := played(t, compiled(t, `for i = 1, 200 do local t = {i, {}} if i > 199 then emit(t) end end`), 420, many(api.PointMajor)...)
	if strings.Join(o.lines, "|") != "table 402" {
		t.Errorf("%v", o)
	}
}

func TestP15_2TypeAndText(t *testing.T) {
	checkRows(t,
		row{src: `emit(type(nil), type(true), type(1), type(1.5), type("a"), type({}), type(function() end), type(emit), type(create(function() end)))`, lines: "nil boolean number number string table function function thread"},
		row{src: `emit(type(), tostring(), type(1, nil), tostring(nil, 1))`, lines: "nil nil number nil"},
		row{src: `emit(tostring(true), tostring(false), tostring(-5), tostring(1.0), tostring("a"), tostring(collect))`, lines: "true false -5 0f3ff0000000000000 a native 17"},
		row{src: `local t = {} emit(tostring(t) == tostring(t), tostring(t), type(tostring(t)))`, lines: "true table 4 string"},
		row{src: `local f = function() end emit(tostring(f), tostring(create(f)), tostring(setmeta({}, {__index = f})))`, lines: "function 5 thread 6 table 7"},
	)
}

// A box is a value of a register, too, where a program is put together by hand.
func TestP15_2TypeOfBox(t *testing.T) {
	f := api.Proto{Regs: 3, Consts: []api.Const{letters("type"), letters("tostring")}, Code: []api.Ins{
		{Op: api.INewBox, A: 2}, {Op: api.IGetGlobal, A: 0, B: 0}, {Op: api.IMove, A: 1, B: 2}, {Op: api.ICall, A: 0, B: 1, C: 1},
		{Op: api.IGetGlobal, A: 1, B: 1}, {Op: api.ICall, A: 1, B: 1, C: 1}, {Op: api.IConcat, A: 0, B: 0, C: 1}, {Op: api.IReturn, A: 0, B: 1},
	}}
	checkSaid(t, f, "true boxbox 6")
}

func TestP15_2Metatables(t *testing.T) {
	checkRows(t,
		row{src: `local t, m = {}, {} emit(rawequal(setmeta(t, m), t), rawequal(getmeta(t), m), setmeta(t, nil) == t, getmeta(t))`, lines: "true true true nil"},
		row{src: `local t = setmeta({}, {}) setmeta(t) emit(getmeta(t), getmeta(), getmeta(nil), getmeta("a"), getmeta(1), getmeta(emit))`, lines: "nil nil nil nil nil nil"},
		row{src: `setmeta()`, failure: "error 10"},
		row{src: `setmeta(nil, {})`, failure: "error 10"},
		row{src: `setmeta("a", {})`, failure: "error 10"},
		row{src: `setmeta({}, 1)`, failure: "error 10"},
		row{src: `setmeta({}, false)`, failure: "error 10"},
		row{src: `setmeta({}, emit)`, failure: "error 10"},
		row{src: `local t = {} emit(pcall(setmeta, t, "m"), getmeta(t))`, lines: "false nil"},
		row{src: `local t = {} setmeta(t, t) t.__index = function() return "own" end emit(t.x)`, lines: "own"},
	)
}

func TestP15_2Raw(t *testing.T) {
	checkRows(t,
		row{src: `local t = setmeta({5}, {__index = error, __newindex = error, __len = error, __eq = error}) emit(rawget(t, 1), rawget(t, 2), rawget(t, nil), rawget(t), rawlen(t), rawequal(t, {}))`, lines: "5 nil nil nil 1 false"},
		row{src: `local t = setmeta({}, {__newindex = error}) emit(rawset(t, "x", 1) == t, t.x, rawset(t, "x") == t, t.x)`, lines: "true 1 true nil"},
		row{src: `rawset({}, nil, 1)`, failure: "error 13"},
		row{src: `rawset({})`, failure: "error 13"},
		row{src: `rawset({}, 0 / 0, 1)`, failure: "error 13"},
		row{src: `rawset()`, failure: "error 10"},
		row{src: `rawset(nil, nil, 1)`, failure: "error 10"},
		row{src: `rawset("a", 1, 1)`, failure: "error 10"},
		row{src: `rawget()`, failure: "error 10"},
		row{src: `rawget("a", 1)`, failure: "error 10"},
		row{src: `emit(rawlen("abc"), rawlen({1, 2, 3, 4}), rawlen(""))`, lines: "3 4 0"},
		row{src: `rawlen()`, failure: "error 10"},
		row{src: `rawlen(5)`, failure: "error 10"},
		row{src: `rawlen(emit)`, failure: "error 10"},
		row{src: `local n = 0 / 0 emit(rawequal(), rawequal(nil), rawequal(1), rawequal(1, 1.0), rawequal(n, n), rawequal("a", "a"), rawequal({}, {}), rawequal(0, -0.0))`, lines: "true true false true false true false true"},
		row{src: `local t = {} local function put() for i = 1, 5000 do rawset(t, i, i) end end local ok, e = pcall(put) emit(ok, e, rawlen(t))`, lines: "false error 4 2048"},
	)
}

func TestP15_2Next(t *testing.T) {
	checkRows(t,
		row{src: `local k, v = next({}) emit(k, v)`, lines: "nil nil"},
		row{src: `local t = {7, 8, x = 9} local k, v = next(t) emit(k, v) k, v = next(t, k) emit(k, v) k, v = next(t, k) emit(k, v) k, v = next(t, k) emit(k, v)`, lines: "1 7|2 8|x 9|nil nil"},
		row{src: `local t = {1, 2, 3} local k, n = next(t), 0 while k do n = n + t[k] t[k] = nil k = next(t, k) end emit(n, next(t))`, lines: "6 nil"},
		row{src: `next()`, failure: "error 10"},
		row{src: `next("a")`, failure: "error 10"},
		row{src: `next({}, 1)`, failure: "error 13"},
		row{src: `next({1}, "x")`, failure: "error 13"},
		row{src: `local n = 0 / 0 next({1}, n)`, failure: "error 13"},
		row{src: `emit(next({5}, nil), next({5}, 1.0), pcall(next, {5}, 2))`, lines: "1 nil false"},
	)
}

// The order in which keys are met does not hang on what was collected.
func TestP15_5Order(t *testing.T) {
	checkRows(t, row{src: `local t, n, l = {}, 0, "" for i = 1, 6 do local x = {} t[{}] = i t["k" .. i] = i t[function() end] = i end local k, v = next(t) while k do n = n + 1 l = l .. v k, v = next(t, k) end emit(n, #l)`, lines: "18 18"})
}

func TestP15_2Pcall(t *testing.T) {
	checkRows(t,
		row{src: `local a, b, c, d = pcall(function(x, y) return y, x end, 1, 2) emit(a, b, c, d)`, lines: "true 2 1 nil"},
		row{src: `local a, b = pcall(function() end) emit(a, b)`, lines: "true nil"},
		row{src: `local a, b = pcall(type) emit(a, b)`, lines: "true nil"},
		row{src: `local a, b = pcall(type, 1) emit(a, b)`, lines: "true number"},
		row{src: `local a, b = pcall(emit, 1, 2) emit(a, b)`, lines: "1 2|true nil"},
		row{src: `pcall()`, failure: "error 10"},
		row{src: `local a, b = pcall(nil) emit(a, b)`, lines: "false error 10"},
		row{src: `local a, b = pcall(5, 1) emit(a, b)`, lines: "false error 10"},
		row{src: `local a, b = pcall(pcall) emit(a, b)`, lines: "false error 10"},
		row{src: `local a, b, c = pcall(pcall, error, "x") emit(a, b, c)`, lines: "true false x"},
		row{src: `local a, b, c, d = pcall(pcall, pcall, error, "x") emit(a, b, c, d)`, lines: "true true false x"},
		row{src: `local a, b, c, d = pcall(pcall, pcall) emit(a, b, c, d)`, lines: "true false error 10 nil"},
		row{src: `local a, b, c, d = pcall(pcall, pcall, type, 1) emit(a, b, c, d)`, lines: "true true true number"},
		row{src: `local a, b = pcall(setmeta({}, {__call = function(t, x) return x end}), 7) emit(a, b)`, lines: "true 7"},
		row{src: `local a = pcall(error) emit(a)`, lines: "false"},
		row{src: `pcall(error, "x") emit("on")`, lines: "on"},
		row{src: `local t = setmeta({}, {__index = pcall}) emit(t.x)`, lines: "false"},
		// A table that is called by pcall, again and again, until there are no registers more.
		row{src: `local t = setmeta({}, {__call = pcall}) local a, b, c = t(1) emit(a, b, c)`, lines: "true true true"},
	)
}

func TestP15_2Error(t *testing.T) {
	checkRows(t,
		row{src: `error("x") emit("no")`, failure: "x"},
		row{src: `error()`, failure: "nil"},
		row{src: `error(nil)`, failure: "nil"},
		row{src: `error(false)`, failure: "false"},
		row{src: `error(12)`, failure: "12"},
		row{src: `error(1.5)`, failure: "0f3ff8000000000000"},
		row{src: `error(error)`, failure: "native 11"},
		row{src: `local t = {} local ok, e = pcall(error, t) emit(ok, e == t)`, lines: "false true"},
		row{src: `local ok, e = pcall(error) emit(ok, e)`, lines: "false nil"},
		row{src: `local ok, e, f = pcall(error, 1, 2) emit(ok, e, f)`, lines: "false 1 nil"},
	)
}

func TestP15_2Collect(t *testing.T) {
	checkRows(t,
		row{src: `local a, b = collect() emit(a, b)`, lines: "nil nil"},
		row{src: `local a = pcall(collect, 1, 2, 3) emit(a)`, lines: "true"},
		row{src: `local t, s = {{}}, "a" .. "b" collect() emit(type(t[1]), s, #t)`, lines: "table ab 1"},
	)
	m := open(t, compiled(t, `for i = 1, 50 do local x = {} end emit("a") collect() emit("b")`), api.MaxCells)
	stepToLine(m, 1)
	check(t, "tables ahead of collect", len(things(m, api.TTable)), 51)
	stepToLine(m, 2)
	check(t, "tables behind collect", len(things(m, api.TTable)), 2) // a register holds the last one
}

// stepToLine does instructions up to one behind which there are so many lines.
func stepToLine(m *vm.VM, n int) {
	for len(m.Lines()) < n && m.Step(1) == 1 {
	}
}

// An error whose text has no bytes is one all the same.
func TestP15_2EmptyError(t *testing.T) {
	o := played(t, compiled(t, `error("") emit(1)`), 3000)
	if o.verdict != api.Failed || o.failure != "" || len(o.lines) != 0 {
		t.Errorf("%v", o)
	}
}
