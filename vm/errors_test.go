package vm_test

import (
	"fmt"
	"slices"
	"testing"

	"heirloom/api"
	"heirloom/num"
)

func TestP15_2Caught(t *testing.T) {
	checkRows(t,
		row{src: `local ok, e = pcall(function() local x = 1 error("in") emit("no") end) emit(ok, e)`, lines: "false in"},
		row{src: `local function a() error("deep") end local function b() a() emit("no") end local ok, e = pcall(b) emit(ok, e)`, lines: "false deep"},
		row{src: `local ok, e = pcall(function() local ok, e = pcall(error, 1) emit(ok, e) error(2) end) emit(ok, e)`, lines: "false 1|false 2"},
		row{src: `local ok, e = pcall(function() return pcall(error, 3) end) emit(ok, e)`, lines: "true false"},
		row{src: `local a, b, c = pcall(function() return pcall(error, 3) end) emit(a, b, c)`, lines: "true false 3"},
		row{src: `local ok, e = pcall(function() return nil + 1 end) emit(ok, e) ok, e = pcall(function() return 1 // 0 end) emit(ok, e)`, lines: "false error 10|false error 11"},
		row{src: `local x, y = 1, 2 local ok, e = pcall(function() x = 5 error("a") y = 5 end) emit(x, y)`, lines: "5 2"},
		row{src: `for i = 1, 3 do local ok, e = pcall(function() if i == 2 then error(i) end return i end) emit(ok, e) end`, lines: "true 1|false 2|true 3"},
		row{src: `emit("a") local function f() error({}) end emit(pcall(f)) f() emit("no")`, lines: "a|false", failure: "table 7"},
		row{src: `local ok, e = pcall(function() local g = create(function() error("in g") end) local a, b = resume(g) emit(a, b) error("out") end) emit(ok, e)`, lines: "false in g|false out"},
		row{src: `local g = create(function() local ok, e = pcall(function() yield(1) error("x") end) emit(ok, e) local ok2, e2 = pcall(error, "y") yield(e2) error("z") end) local a, b = resume(g) emit(a, b) a, b = resume(g) emit(a, b) a, b = resume(g) emit(a, b)`, lines: "true 1|false x|true y|false z"},
		row{src: `local ok, e = pcall(pcall, function() local t = setmeta({}, {__add = function() error("h") end}) return t + 1 end) emit(ok, e)`, lines: "true false"},
		row{src: `local t = setmeta({}, {__add = function() error("h") end, __eq = function() error("q") end}) local ok, e = pcall(function() return t + 1 end) emit(ok, e) ok, e = pcall(function() return t == {} end) emit(ok, e)`, lines: "false h|false q"},
		row{src: `local g = create(function() pcall(function() local h = create(function() error("h") end) local a, b = resume(h) emit(a, b) error("g") end) emit("on") error("end") end) local a, b = resume(g) emit(a, b)`, lines: "false h|on|false end"},
	)
}

// MaxFrames functions run in a coroutine, and no more; others have as many.
func TestP15_2Frames(t *testing.T) {
	t.Parallel()
	count := `local n = 0 local function f() n = n + 1 f() end `
	most := api.MaxFrames
	checkRows(t,
		row{src: count + `pcall(f) emit(n)`, lines: fmt.Sprint(most - 1)},
		row{src: count + `local ok, e = resume(create(f)) emit(n, ok, e)`, lines: fmt.Sprint(most, " false error 14")},
		row{src: count + `pcall(function() pcall(f) end) emit(n)`, lines: fmt.Sprint(most - 2)},
		row{src: `local function f(n) if n == 0 then return "end" end local r = f(n - 1) return r end emit(f(58)) emit(f(59))`, lines: "end", failure: "error 14"},
		// What is called in a tail takes the place of who calls it.
		row{src: `local function f(n) if n == 0 then return "end" end return f(n - 1) end emit(f(500))`, lines: "end"},
		row{src: `local n = 0 local function f() n = n + 1 local ok, e = pcall(f) return ok, e end f() emit(n)`, lines: "59"},
		// Native functions do not count, but what they call.
		row{src: `local function f(n) if n == 0 then return type(n) end local ok, r = pcall(f, n - 1) return r end emit(f(58)) emit(f(59))`, lines: "number|error 14"},
		// A handler counts.
		row{src: `local n = 0 local t t = setmeta({}, {__index = function(t, k) n = n + 1 return t[k] + 1 end}) local ok, e = pcall(function() return t.x end) emit(n, ok, e)`, lines: "58 false error 14"},
	)
}

func TestP15_2TailCall(t *testing.T) {
	checkRows(t,
		row{src: `local function f(a, b) return b, a, 3 end local function g() return f(1, 2) end local a, b, c = g() emit(a, b, c)`, lines: "2 1 3"},
		row{src: `local function g() return type(1) end local a, b = g() emit(a, b)`, lines: "number nil"},
		row{src: `local function g() return emit(1) end local a = g() emit(a)`, lines: "1|nil"},
		row{src: `local t = setmeta({}, {__call = function(t, a, b) return type(t), a, b end}) local function g() return t(1, 2) end local a, b, c = g() emit(a, b, c)`, lines: "table 1 2"},
		row{src: `local t = setmeta({}, {__call = type}) local function g() return t(1, 2) end local a, b = g() emit(a, b)`, lines: "table nil"},
		row{src: `local function f(a) return a, 2 end local function g() return pcall(f, 1) end local a, b, c = g() emit(a, b, c)`, lines: "true 1 2"},
		row{src: `local function g() return pcall(error, "x") end local a, b, c = g() emit(a, b, c)`, lines: "false x nil"},
		row{src: `local function g() return pcall(function() error("x") end) end local a, b, c = g() emit(a, b, c)`, lines: "false x nil"},
		row{src: `local function g() return pcall(pcall, error, "x") end local a, b, c = g() emit(a, b, c)`, lines: "true false x"},
		row{src: `local function f() return error("x") end local ok, e = pcall(f) emit(ok, e)`, lines: "false x"},
		row{src: `local function f() error("x") end local function g() return f() end local ok, e = pcall(g) emit(ok, e)`, lines: "false x"},
		row{src: `local f local function g() return f() end local ok, e = pcall(g) emit(ok, e)`, lines: "false error 10"},
		row{src: `local t = setmeta({}, {__index = function(t, k) return rawget({a = 5}, k) end, __eq = function() return rawequal(1, 1) end}) emit(t.a, t == {})`, lines: "5 true"},
		row{src: `local x = 0 local function f(n) x = x + 1 if n == 0 then return x end local function g() return n - 1 end return f(g()) end emit(f(100))`, lines: "101"},
		row{src: `return emit(1)`, lines: "1"},
		row{src: `return (function() emit(1) return 2 end)()`, lines: "1"},
		row{src: `return error("x")`, failure: "x"},
		row{src: `return nil`},
		row{src: `local t = setmeta({}, {__call = function() return emit("h") end}) return t()`, lines: "h"},
		// Its own want is that of who called it, also where that protects.
		row{src: `local function loop(n) if n == 0 then error("end") end return loop(n - 1) end local ok, e = pcall(loop, 200) emit(ok, e)`, lines: "false end"},
	)
}

// downTo is a program whose functions call one another, each in its last register, so that the one that is told has that base. Kids are numbered from it on.
func downTo(base int, l ...api.Proto) api.Program {
	var made []api.Proto
	for at := 1; at < base; {
		regs := min(base-at, api.MaxRegs)
		at += regs
		made = append(made, api.Proto{Regs: regs, Kids: []int{len(made) + 1}, Code: []api.Ins{
			{Op: api.IClosure, A: regs - 1, B: 0}, {Op: api.ICall, A: regs - 1, B: 0, C: 1}, {Op: api.IReturn, A: regs - 1, B: 1},
		}})
	}
	ahead := len(made)
	for _, f := range l {
		f.Kids = slices.Clone(f.Kids)
		for i := range f.Kids {
			f.Kids[i] += ahead
		}
		made = append(made, f)
	}
	return by(made...)
}

// MaxParts registers, and one more.
func TestP15_2Registers(t *testing.T) {
	for _, c := range []struct{ base, regs int }{{1, 9}, {2, 9}, {500, 3}, {api.MaxParts, 0}, {api.MaxParts - 1, 1}, {api.MaxParts - 120, 120}, {api.MaxParts - 50, 20}} {
		for more := range 2 {
			f := api.Proto{Regs: c.regs, Code: []api.Ins{end}}
			m := open(t, downTo(c.base+more, f), api.MaxCells)
			for m.Verdict() == api.Runs && m.Step(1) == 1 {
			}
			if c.base+more+c.regs > api.MaxParts {
				check(t, "verdict", m.Verdict(), api.Failed)
				check(t, "error", m.Error(), "error 14")
				continue
			}
			check(t, "verdict", m.Verdict(), api.Done)
			check(t, "registers", len(thing(t, m, threads(m)[0]).Slots), c.base+more+c.regs)
		}
	}
}

// What asks for registers: they are there up to MaxParts, and with one fewer the same is refused, and tells so to who protects.
func TestP15_2LastRegister(t *testing.T) {
	t.Parallel()
	for _, c := range []struct {
		src      string
		behind   int // so many registers it needs behind the first one of its own
		lines    string
		failure  string // where there is one fewer
		instead  string
		explains string
	}{
		{src: `local function f() local ` + manyLocals(40) + ` return 1 end emit(f())`, behind: 3 + 41, lines: "1", failure: "error 14", explains: "a function"},
		{src: `local function f() local ` + manyLocals(40) + ` return 1 end local a, b = pcall(f) emit(a, b)`, behind: 3 + 41, lines: "true 1", instead: "false error 14", explains: "a function that is protected"},
		{src: `local t = setmeta({}, {__index = type}) emit(t.x)`, behind: 5 + 3, lines: "table", failure: "error 14", explains: "a handler of two arguments"},
		{src: `local t = setmeta({}, {__newindex = rawset}) t.x = 1 emit(rawget(t, "x"))`, behind: 5 + 4, lines: "1", failure: "error 14", explains: "a handler of three"},
		{src: `local t = setmeta({}, {__len = type}) emit(#t)`, behind: 5 + 2, lines: "table", failure: "error 14", explains: "a handler of one"},
		{src: `local t = setmeta({}, {__call = type}) local a, b, c = 1, 2, 3 return t()`, behind: 4 + 2, failure: "error 14", explains: "a table that is called"},
		{src: `local function wide() local ` + manyLocals(58) + ` return 1 end local function narrow() return wide() end local a, b = pcall(narrow) emit(a, b)`, behind: 4 + 59, lines: "true 1", instead: "false error 14", explains: "what is called in a tail: who called it has left, and its want protects"},
		{src: `local function wide() local ` + manyLocals(58) + ` return 1 end local function narrow() return wide() end emit(narrow())`, behind: 4 + 59, lines: "1", failure: "error 14", explains: "what is called in a tail"},
	} {
		for fewer := range 2 {
			p := downTo(api.MaxParts-c.behind+fewer, compiled(t, c.src).Protos...)
			o := played(t, p, api.MaxCells)
			want := row{src: c.explains, lines: c.lines}
			if fewer > 0 {
				want = row{src: c.explains, lines: c.instead, failure: c.failure}
			}
			checkOutcome(t, want, o)
		}
	}
}

// manyLocals are names of variables.
func manyLocals(n int) string {
	s := "a1"
	for i := 2; i <= n; i++ {
		s += fmt.Sprint(", a", i)
	}
	return s
}

// An error's string is made where it is thrown, once.
func TestP15_2ErrorStrings(t *testing.T) {
	for err, src := range map[api.Errno]string{
		api.ErrType: `nil + 1`, api.ErrZero: `1 // 0`, api.ErrInt: `1.5 // 1`, api.ErrKey: `rawset({}, nil, 1)`, api.ErrState: `yield()`,
	} {
		checkRows(t, row{src: `local ok, e = pcall(function() return ` + src + ` end) emit(ok, e, type(e))`, lines: "false " + err.Error() + " string"})
	}
	check(t, "ErrType", api.ErrType.Error(), "error "+num.Text(num.Int(10)))
}
