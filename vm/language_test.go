package vm_test

import (
	"math"
	"testing"

	"heirloom/api"
	"heirloom/num"
)

func TestP15_1Values(t *testing.T) {
	checkRows(t,
		row{src: ``},
		row{src: `emit()`, lines: ""},
		row{src: `emit(nil, true, false, 7, -7, "a", "")`, lines: "nil true false 7 -7 a "},
		row{src: `emit(1.5, 0.0, 1 / 0)`, lines: "0f3ff8000000000000 0f0000000000000000 0f7ff0000000000000"},
		row{src: `local a, b, c = 1 local d = 2, 3 emit(a, b, c, d)`, lines: "1 nil nil 2"},
		row{src: `a, b = 1, 2 a, b = b, a emit(a, b, c)`, lines: "2 1 nil"},
		row{src: `emit = nil emit(1)`, failure: "error 10"},
		row{src: `local e = emit emit = 5 e(emit)`, lines: "5"},
		row{src: `emit(not nil, not false, not 0, not "", not {})`, lines: "true true false false false"},
		row{src: `emit(nil and 1, false and 1, 0 and 1, nil or 2, false or 2, 0 or 2)`, lines: "nil false 1 2 2 0"},
	)
}

func TestP15_2Reckoning(t *testing.T) {
	checkRows(t,
		row{src: `local a, b = 7, 2 emit(a + b, a - b, a * b, a // b, a % b, -a)`, lines: "9 5 14 3 1 -7"},
		row{src: `local a, b = 7, 2 emit(a / b, a + 0.5)`, lines: "0f400c000000000000 0f401e000000000000"},
		row{src: `local a, b = -7, 2 emit(a // b, a % b)`, lines: "-4 1"},
		row{src: `local a = 9223372036854775807 emit(a + 1, -a - 1, a * 2)`, lines: "-9223372036854775808 -9223372036854775808 -2"},
		row{src: `local a = 1 emit(a // 0)`, failure: "error 11"},
		row{src: `local a = 1 emit(a % 0)`, failure: "error 11"},
		row{src: `local a = 1.5 emit(a // 1)`, failure: "error 12"},
		row{src: `local a = 1.5 emit(1 % a)`, failure: "error 12"},
		row{src: `local a = "1" emit(a + 1)`, failure: "error 10"},
		row{src: `local a = "1" emit(-a)`, failure: "error 10"},
		row{src: `local a = {} emit(a // 0)`, failure: "error 10"},
		row{src: `local a, b = "x", 1 emit(a .. b, b .. a, b .. b, a .. 1.0, "" .. "")`, lines: "x1 1x 11 x0f3ff0000000000000 "},
		row{src: `emit("a" .. nil)`, failure: "error 10"},
		row{src: `emit({} .. "a")`, failure: "error 10"},
		row{src: `emit(true .. "a")`, failure: "error 10"},
		row{src: `emit(#"", #"abc", #{}, #{1, 2}, #{1, nil, 3})`, lines: "0 3 0 2 1"},
		row{src: `emit(#5)`, failure: "error 10"},
		row{src: `emit(#nil)`, failure: "error 10"},
	)
}

// A string of MaxText bytes may be, one of one more may not.
func TestP15_2LongText(t *testing.T) {
	src := `local s = "x" for i = 1, 12 do s = s .. s end emit(#s) `
	checkRows(t,
		row{src: src + `s = s .. ""`, lines: "4096"},
		row{src: src + `emit(pcall(function() return s .. "y" end)) local ok, e = pcall(function() return s .. "y" end) emit(ok, e)`, lines: "4096|false|false error 3"},
		row{src: src + `emit(s .. 1)`, lines: "4096", failure: "error 3"},
	)
}

func TestP15_2Comparing(t *testing.T) {
	checkRows(t,
		row{src: `emit(1 < 2, 2 < 1, 1 < 1, 1 <= 1, 2 <= 1, 1 > 2, 2 >= 2)`, lines: "true false false true false false true"},
		row{src: `emit(1 < 1.5, 1.5 < 1, 1 <= 1.0, 9007199254740993 <= 0f4340000000000000)`, lines: "true false true false"},
		row{src: `emit("a" < "b", "b" < "a", "a" < "a", "a" <= "a", "" < "a", "a" < "ab", "Z" < "a", "\x80" < "a")`, lines: "true false false true true true true false"},
		row{src: `local n = 0 / 0 emit(n < n, n <= n, n == n, n ~= n, n < 1, 1 < n, 1 <= n)`, lines: "false false false true false false false"},
		row{src: `emit(1 == 1.0, 0 == -0.0, 1 == "1", nil == false, "a" == "a", 1 ~= 1)`, lines: "true true false false true false"},
		row{src: `local t, u = {}, {} emit(t == t, t == u, t ~= u, emit == emit, emit == error)`, lines: "true false true true false"},
		row{src: `local f = function() end local g = create(f) emit(f == f, g == g, g == create(f), f == function() end)`, lines: "true true false false"},
		row{src: `emit(1 < "1")`, failure: "error 10"},
		row{src: `emit("1" <= 1)`, failure: "error 10"},
		row{src: `emit(nil < nil)`, failure: "error 10"},
		row{src: `emit({} < {})`, failure: "error 10"},
		row{src: `emit(true <= true)`, failure: "error 10"},
	)
}

func TestP15_2Tables(t *testing.T) {
	checkRows(t,
		row{src: `local t = {1, 2, x = 3, [4] = 5, [true] = 6} emit(t[1], t[2], t.x, t["x"], t[4], t[true], t[false], t.y, t[3])`, lines: "1 2 3 3 5 6 nil nil nil"},
		row{src: `local t = {} t[1.0] = "a" t[2] = "b" emit(t[1], t[2.0], #t) t[1] = nil emit(t[1], #t)`, lines: "a b 2|nil 0"},
		row{src: `local t, k = {}, {} t[k] = 1 t[t] = 2 t[emit] = 3 emit(t[k], t[t], t[emit], t[{}])`, lines: "1 2 3 nil"},
		row{src: `local t = {} emit(t[nil], t[0 / 0])`, lines: "nil nil"},
		row{src: `local t = {} t[nil] = 1`, failure: "error 13"},
		row{src: `local t = {} t[0 / 0] = 1`, failure: "error 13"},
		row{src: `local t = {} t[nil] = nil`, failure: "error 13"},
		row{src: `local t = nil emit(t.x)`, failure: "error 10"},
		row{src: `local t = "s" emit(t[1])`, failure: "error 10"},
		row{src: `local t = 1 t.x = 2`, failure: "error 10"},
		row{src: `emit.x = 2`, failure: "error 10"},
		row{src: `local t = {{{}}} t[1][1].x = 5 emit(t[1][1].x)`, lines: "5"},
		row{src: `local t = {a = 1} t.a, t.b = t.b, t.a emit(t.a, t.b)`, lines: "nil 1"},
	)
}

// A table that has MaxParts slots takes no key more: ErrMany.
func TestP15_2FullTable(t *testing.T) {
	checkRows(t, row{src: `local t, n = {}, 0 local function put() for i = 1, 5000 do t[i] = 1 n = i end end local ok, e = pcall(put) emit(n, ok, e, #t)`, lines: "2048 false error 4 2048"})
}

func TestP15_2Branches(t *testing.T) {
	checkRows(t,
		row{src: `if nil then emit(1) elseif false then emit(2) elseif 0 then emit(3) else emit(4) end`, lines: "3"},
		row{src: `if nil then emit(1) else emit(2) end if true then emit(3) end if "" then emit(4) end`, lines: "2|3|4"},
		row{src: `local i = 0 while i < 3 do i = i + 1 if i == 2 then emit("two") end end emit(i)`, lines: "two|3"},
		row{src: `local i = 0 while true do i = i + 1 if i > 4 then break end end emit(i)`, lines: "5"},
		row{src: `while nil do emit(1) end`},
	)
}

func TestP15_2Loops(t *testing.T) {
	checkRows(t,
		row{src: `for i = 1, 3 do emit(i) end`, lines: "1|2|3"},
		row{src: `for i = 3, 1, -1 do emit(i) end`, lines: "3|2|1"},
		row{src: `for i = 1, 6, 2 do emit(i) end`, lines: "1|3|5"},
		row{src: `for i = 2, 1 do emit(i) end for i = 1, 2, -1 do emit(i) end emit("none")`, lines: "none"},
		row{src: `for i = 1, 1 do emit(i) end for i = 1, 1, -1 do emit(-i) end`, lines: "1|-1"},
		row{src: `for i = 1, 2, 0.5 do emit(i) end`, lines: "1|0f3ff8000000000000|0f4000000000000000"},
		row{src: `for i = 1.0, 2 do emit(i) end`, lines: "0f3ff0000000000000|0f4000000000000000"},
		row{src: `for i = 1, 3 do i = 7 emit(i) end`, lines: "7|7|7"},
		row{src: `for i = 1, 2, 0 do emit(i) end`, failure: "error 11"},
		row{src: `for i = 1, 2, 0.0 do emit(i) end`, failure: "error 11"},
		row{src: `for i = 1, 2, -0.0 do emit(i) end`, failure: "error 11"},
		row{src: `for i = 5, 2, 0 do emit(i) end`, failure: "error 11"},
		row{src: `for i = "a", 2, 0 do emit(i) end`, failure: "error 10"},
		row{src: `for i = 1, "2" do emit(i) end`, failure: "error 10"},
		row{src: `for i = 1, 2, {} do emit(i) end`, failure: "error 10"},
		row{src: `for i = nil, 2 do emit(i) end`, failure: "error 10"},
		row{src: `local n = 0 / 0 for i = 1, n do emit(i) end for i = n, 2 do emit(i) end for i = 1, n, -1 do emit(i) end for i = n, n do emit(i) end emit("none")`, lines: "none"},
		// A step that is a NaN is not below 0, and nothing is on its side.
		row{src: `local n = 0 / 0 for i = 1, 2, n do emit(i) end for i = 2, 1, n do emit("no") end`, lines: "1"},
		row{src: `local n = 1 / 0 for i = 1, n do emit(i) if i == 2 then break end end for i = 1, -n do emit(i) end for i = n, n do emit(i) end`, lines: "1|2|0f7ff0000000000000"},
		row{src: `for i = 9223372036854775806, 9223372036854775807 do emit(i) end`, lines: "9223372036854775806|9223372036854775807"},
		row{src: `for i = -9223372036854775807 - 1, -9223372036854775807 - 1 do emit(i) end for i = -9223372036854775807, -9223372036854775807 - 1, -1 do emit(i) end`, lines: "-9223372036854775808|-9223372036854775807|-9223372036854775808"},
		row{src: `for i = 1, 9223372036854775807, 9223372036854775807 do emit(i) end for i = -1, -9223372036854775807, -9223372036854775807 do emit(i) end`, lines: "1|-1"},
		row{src: `for i = 0f4340000000000000, 0f4340000000000004 do emit(i) end`, lines: "0f4340000000000000"}, // the sum is too small to be seen
		row{src: `for i = 1, 0f43e0000000000000 do emit(i) if i == 2 then break end end`, lines: "1|2"},
	)
}

// The variable of a loop is another one each time; a bound, and a step, is looked at once.
func TestP15_2LoopVariables(t *testing.T) {
	checkRows(t,
		row{src: `local t = {} for i = 1, 3 do t[i] = function() i = i + 10 return i end end emit(t[1](), t[2](), t[3](), t[1]())`, lines: "11 12 13 21"},
		row{src: `local n = 2 for i = 1, n do n = 9 emit(i) end`, lines: "1|2"},
	)
}

func TestP15_2Closures(t *testing.T) {
	checkRows(t,
		row{src: `local n = 0 local function f() n = n + 1 return n end f() f() emit(f(), n)`, lines: "3 3"},
		row{src: `local function counter() local n = 0 return function() n = n + 1 return n end end local a, b = counter(), counter() a() a() emit(a(), b())`, lines: "3 1"},
		row{src: `local function f(a) local function g() return a end local function h(b) a = b end return g, h end local g, h = f(1) h(5) emit(g())`, lines: "5"},
		row{src: `local x = 1 local function a() local function b() local function c() x = x + 1 return x end return c end return b end emit(a()()(), x)`, lines: "2 2"},
		row{src: `local function fact(n) if n < 2 then return 1 end return n * fact(n - 1) end emit(fact(10))`, lines: "3628800"},
		row{src: `local function f(a, b, c) emit(a, b, c) end f() f(1) f(1, 2) f(1, 2, 3) f(1, 2, 3, 4, 5)`, lines: "nil nil nil|1 nil nil|1 2 nil|1 2 3|1 2 3"},
		row{src: `local function f() return 1, 2, 3 end local a, b, c, d = f() emit(a, b, c, d) emit(f()) local e = f() emit(e) f()`, lines: "1 2 3 nil|1|1"},
		row{src: `local function f() end local a, b = f() emit(a, b, f())`, lines: "nil nil nil"},
		row{src: `local function f() return end emit(f())`, lines: "nil"},
		row{src: `local function f(a) a = a + 1 local g = function() return a end a = a * 2 return g end emit(f(3)())`, lines: "8"},
	)
}

// A function's registers are nil at first, whatever lay there.
func TestP15_2FreshRegisters(t *testing.T) {
	checkRows(t,
		row{src: `local function f() local a, b, c = 1, 2, 3 return a end local function g(x) local a, b, c emit(x, a, b, c) end f() g() g(1, 2, 3, 4, 5, 6)`, lines: "nil nil nil nil|1 nil nil nil"},
	)
	// A function by hand tells registers that nothing was put into.
	f := api.Proto{Params: 1, Regs: 5, Code: []api.Ins{{Op: api.IReturn, A: 0, B: 5}}}
	first := api.Proto{Regs: 9, Kids: []int{1}, Consts: []api.Const{letters("emit"), number(num.Int(7))}, Code: []api.Ins{
		{Op: api.IConst, A: 1, B: 1}, {Op: api.IConst, A: 2, B: 1}, {Op: api.IConst, A: 3, B: 1}, {Op: api.IConst, A: 4, B: 1}, {Op: api.IConst, A: 5, B: 1},
		{Op: api.IClosure, A: 1, B: 0}, {Op: api.ICall, A: 1, B: 3, C: 5},
		{Op: api.IGetGlobal, A: 0, B: 0}, {Op: api.ICall, A: 0, B: 5, C: 0}, end,
	}}
	o := played(t, by(first, f), 3000)
	if len(o.lines) != 1 || o.lines[0] != "7 nil nil nil nil" {
		t.Errorf("%v", o)
	}
	// Arguments that it has no parameters and no registers for are not held while it runs.
	for _, src := range []string{`local function f() emit(1) end f({}, {}, {}, {}, {})`, `local function f(a) emit(1) end f(1, {}, {}, {}, {})`} {
		m := open(t, compiled(t, src), 3000)
		stepToLine(m, 1)
		m.Collect()
		check(t, src+": tables", len(things(m, api.TTable)), 1)
	}
}

// Mathematics of a float's own: what num says, an instruction says.
func TestP15_2Num(t *testing.T) {
	values := []api.Value{num.Int(0), num.Int(1), num.Int(-3), num.Int(math.MaxInt64), num.Int(math.MinInt64), num.Float(0), num.Float(2.5), num.Float(-4), num.Float(math.Inf(-1)), num.Float(math.NaN())}
	for op := api.IAdd; op <= api.IMod; op++ {
		for _, a := range values {
			for _, b := range values {
				f := api.Proto{Regs: 2, Consts: []api.Const{number(a), number(b)}, Code: []api.Ins{
					{Op: api.IConst, A: 0, B: 0}, {Op: api.IConst, A: 1, B: 1}, {Op: op, A: 0, B: 0, C: 1}, {Op: api.IReturn, A: 0, B: 1},
				}}
				want, err := num.Op(op-api.IAdd+1, a, b)
				said := "true " + num.Text(want)
				if err != api.OK {
					said = "false " + err.Error()
				}
				checkSaid(t, f, said)
			}
		}
	}
}

// checkSaid calls a function that is put together by hand within pcall, and holds against each other what it answers.
func checkSaid(t *testing.T, f api.Proto, want string) {
	t.Helper()
	if got := said(t, f); got != want {
		t.Errorf("%v: %s, want %s", f.Code, got, want)
	}
}

// said is what a function, called within pcall, answers: true or false, and one value.
func said(t *testing.T, f api.Proto, more ...api.Proto) string {
	t.Helper()
	first := api.Proto{Regs: 4, Kids: []int{1}, Consts: []api.Const{letters("emit"), letters("pcall")}, Code: []api.Ins{
		{Op: api.IGetGlobal, A: 0, B: 0}, {Op: api.IGetGlobal, A: 1, B: 1}, {Op: api.IClosure, A: 2, B: 0}, {Op: api.ICall, A: 1, B: 1, C: 2},
		{Op: api.ICall, A: 0, B: 2, C: 0}, end,
	}}
	o := played(t, by(append([]api.Proto{first, f}, more...)...), 4000)
	if len(o.lines) != 1 || o.verdict != api.Done {
		t.Fatalf("%v: %v", f.Code, o)
	}
	return o.lines[0]
}
