package code_test

import "testing"

// TestP10_2Params: they are the first registers; those that are held have their boxes made ahead of all else.
func TestP10_2Params(t *testing.T) {
	checkRows(t,
		row{"return function(a, b) return b, a end", []string{"Closure 0 0, Return 0 1; regs 1; kids 1", "Move 2 1, Move 3 0, Return 2 2; regs 4; params 2"}},
		row{"return function(a, b) end", []string{"Closure 0 0, Return 0 1; regs 1; kids 1", "; regs 2; params 2"}},
		row{"return function(a, b, c) return function() return c, a end end", []string{
			"Closure 0 0, Return 0 1; regs 1; kids 1",
			"NewBox 0, NewBox 2, Closure 3 0, Return 3 1; regs 4; params 3; kids 2",
			"GetUp 0 0, GetUp 1 1, Return 0 2; regs 2; ups L2 L0",
		}},
		row{"return function(a, b) b = a a = b return function() b = a end end", []string{
			"Closure 0 0, Return 0 1; regs 1; kids 1",
			"NewBox 0, NewBox 1, GetBox 2 0, SetBox 1 2, GetBox 2 1, SetBox 0 2, Closure 2 0, Return 2 1; regs 3; params 2; kids 2",
			"GetUp 0 0, SetUp 1 0; regs 1; ups L0 L1",
		}},
		row{"return function(a, a) return a, function() return a end end", []string{
			"Closure 0 0, Return 0 1; regs 1; kids 1",
			"NewBox 1, GetBox 2 1, Closure 3 0, Return 2 2; regs 4; params 2; kids 2",
			"GetUp 0 0, Return 0 1; regs 1; ups L1",
		}},
		row{"function f(a) local b = a local c = b end", []string{`Closure 0 0, SetGlobal 0 0; regs 1; consts "f"; kids 1`, "Move 1 0, Move 2 1; regs 3; params 1"}},
	)
}

// TestP10_2HeldLocals: the boxes of a local are made behind its list, in order.
func TestP10_2HeldLocals(t *testing.T) {
	checkRows(t,
		row{"local a = 1 return function() return a end", []string{"Const 0 0, NewBox 0, Closure 1 0, Return 1 1; regs 2; consts 1; kids 1", "GetUp 0 0, Return 0 1; regs 1; ups L0"}},
		row{"local a, b, c = f() return function() return c, a end, b", []string{
			`GetGlobal 0 0, Call 0 0 3, NewBox 0, NewBox 2, Closure 3 0, Move 4 1, Return 3 2; regs 5; consts "f"; kids 1`,
			"GetUp 0 0, GetUp 1 1, Return 0 2; regs 2; ups L2 L0",
		}},
		row{"local a, b return a, b, function() a = 1 end", []string{"Nil 0, Nil 1, NewBox 0, GetBox 2 0, Move 3 1, Closure 4 0, Return 2 3; regs 5; kids 1", "Const 0 0, SetUp 0 0; regs 1; consts 1; ups L0"}},
		row{"local a = a local a = function() return a end local a = a", []string{`GetGlobal 0 0, NewBox 0, Closure 1 0, Move 2 1; regs 3; consts "a"; kids 1`, "GetUp 0 0, Return 0 1; regs 1; ups L0"}},
		row{"local a = 1, 2, 3 f(function() return a end)", []string{`Const 0 0, Const 1 1, Const 2 2, NewBox 0, GetGlobal 1 3, Closure 2 0, Call 1 1 0; regs 3; consts 1 2 3 "f"; kids 1`, "GetUp 0 0, Return 0 1; regs 1; ups L0"}},
		row{"while a do local b f(function() return b end) b = b end", []string{
			`GetGlobal 0 0, JumpNot 0 10, Nil 0, NewBox 0, GetGlobal 1 1, Closure 2 0, Call 1 1 0, GetBox 1 0, SetBox 0 1, Jump 0; regs 3; consts "a" "f"; kids 1`,
			"GetUp 0 0, Return 0 1; regs 1; ups L0",
		}},
		row{"do local a end do local b, c f(function() return c end) end", []string{
			`Nil 0, Nil 0, Nil 1, NewBox 1, GetGlobal 2 0, Closure 3 0, Call 2 1 0; regs 4; consts "f"; kids 1`, "GetUp 0 0, Return 0 1; regs 1; ups L1",
		}},
	)
}

// TestP10_2HeldFor: the box is made anew each time round.
func TestP10_2HeldFor(t *testing.T) {
	checkRows(t,
		row{"for i = 1, 2 do f(function() return i end, i) i = 3 end", []string{
			`Const 0 0, Const 1 1, Const 2 0, ForPrep 0 12, NewBox 3, GetGlobal 4 2, Closure 5 0, GetBox 6 3, Call 4 2 0, Const 4 3, SetBox 3 4, ForLoop 0 4; regs 7; consts 1 2 "f" 3; kids 1`,
			"GetUp 0 0, Return 0 1; regs 1; ups L3",
		}},
		row{"local a for i = 1, 2, 3 do a = function() return i end break end", []string{
			"Nil 0, Const 1 0, Const 2 1, Const 3 2, ForPrep 1 10, NewBox 4, Closure 5 0, Move 0 5, Jump 10, ForLoop 1 5; regs 6; consts 1 2 3; kids 1",
			"GetUp 0 0, Return 0 1; regs 1; ups L4",
		}},
	)
}

// TestP10_2LocalFunctions: held by itself, by another, by none.
func TestP10_2LocalFunctions(t *testing.T) {
	checkRows(t,
		row{"local function f() end", []string{"Closure 0 0; regs 1; kids 1", "; regs 0"}},
		row{"local function f() end f()", []string{"Closure 0 0, Move 1 0, Call 1 0 0; regs 2; kids 1", "; regs 0"}},
		row{"local function f() f() end f()", []string{"Nil 0, NewBox 0, Closure 1 0, SetBox 0 1, GetBox 1 0, Call 1 0 0; regs 2; kids 1", "GetUp 0 0, Call 0 0 0; regs 1; ups L0"}},
		row{"local a local function f() f() end", []string{"Nil 0, Nil 1, NewBox 1, Closure 2 0, SetBox 1 2; regs 3; kids 1", "GetUp 0 0, Call 0 0 0; regs 1; ups L1"}},
		row{"local function f() end local function g() f() end", []string{
			"Nil 0, NewBox 0, Closure 1 0, SetBox 0 1, Closure 1 1; regs 2; kids 1 2", "; regs 0", "GetUp 0 0, Call 0 0 0; regs 1; ups L0",
		}},
		row{"local function f(f) return f end local a = f", []string{"Closure 0 0, Move 1 0; regs 2; kids 1", "Move 1 0, Return 1 1; regs 2; params 1"}},
		row{"local f = 1 local function f() return f end", []string{"Const 0 0, Nil 1, NewBox 1, Closure 2 0, SetBox 1 2; regs 3; consts 1; kids 1", "GetUp 0 0, Return 0 1; regs 1; ups L1"}},
	)
}

// TestP10_2Ups: in the order in which they are asked for, by the function itself and by those within.
func TestP10_2Ups(t *testing.T) {
	checkRows(t,
		row{"local a, b, c return function() return c, a, c, b end", []string{
			"Nil 0, Nil 1, Nil 2, NewBox 0, NewBox 1, NewBox 2, Closure 3 0, Return 3 1; regs 4; kids 1",
			"GetUp 0 0, GetUp 1 1, GetUp 2 0, GetUp 3 2, Return 0 4; regs 4; ups L2 L0 L1",
		}},
		row{"local a return function() return function() return a end end", []string{
			"Nil 0, NewBox 0, Closure 1 0, Return 1 1; regs 2; kids 1", "Closure 0 0, Return 0 1; regs 1; ups L0; kids 2", "GetUp 0 0, Return 0 1; regs 1; ups U0",
		}},
		row{"local a return function(b) return function(c) return function(d) return d, c, b, a end end end", []string{
			"Nil 0, NewBox 0, Closure 1 0, Return 1 1; regs 2; kids 1", "NewBox 0, Closure 1 0, Return 1 1; regs 2; params 1; ups L0; kids 2",
			"NewBox 0, Closure 1 0, Return 1 1; regs 2; params 1; ups L0 U0; kids 3", "Move 1 0, GetUp 2 0, GetUp 3 1, GetUp 4 2, Return 1 4; regs 5; params 1; ups L0 U0 U1",
		}},
		row{"local a, b, c return function() f(c, function() return b, c end) return a, b end", []string{
			"Nil 0, Nil 1, Nil 2, NewBox 0, NewBox 1, NewBox 2, Closure 3 0, Return 3 1; regs 4; kids 1",
			`GetGlobal 0 0, GetUp 1 0, Closure 2 0, Call 0 2 0, GetUp 0 2, GetUp 1 1, Return 0 2; regs 3; consts "f"; ups L2 L1 L0; kids 2`,
			"GetUp 0 0, GetUp 1 1, Return 0 2; regs 2; ups U1 U0",
		}},
		row{"local a, b return function() a = b end", []string{
			"Nil 0, Nil 1, NewBox 0, NewBox 1, Closure 2 0, Return 2 1; regs 3; kids 1", "GetUp 0 0, SetUp 1 0; regs 1; ups L1 L0",
		}},
		row{"local a, b return function() a = function() return b end end", []string{
			"Nil 0, Nil 1, NewBox 0, NewBox 1, Closure 2 0, Return 2 1; regs 3; kids 1", "Closure 0 0, SetUp 1 0; regs 1; ups L1 L0; kids 2", "GetUp 0 0, Return 0 1; regs 1; ups U0",
		}},
		row{"local a, b return function() a[b], b = 1 end", []string{
			"Nil 0, Nil 1, NewBox 0, NewBox 1, Closure 2 0, Return 2 1; regs 3; kids 1", "GetUp 0 0, GetUp 1 1, Const 2 0, Nil 3, SetIndex 0 1 2, SetUp 1 3; regs 4; consts 1; ups L0 L1",
		}},
		row{"local a do local b function f() return b end end local c function g() return c, a end", []string{
			`Nil 0, NewBox 0, Nil 1, NewBox 1, Closure 2 0, SetGlobal 0 2, Nil 1, NewBox 1, Closure 2 1, SetGlobal 1 2; regs 3; consts "f" "g"; kids 1 2`,
			"GetUp 0 0, Return 0 1; regs 1; ups L1", "GetUp 0 0, GetUp 1 1, Return 0 2; regs 2; ups L1 L0",
		}},
		row{"local a return function() return function() a = 1 end, function() return a end end", []string{
			"Nil 0, NewBox 0, Closure 1 0, Return 1 1; regs 2; kids 1", "Closure 0 0, Closure 1 1, Return 0 2; regs 2; ups L0; kids 2 3", "Const 0 0, SetUp 0 0; regs 1; consts 1; ups U0", "GetUp 0 0, Return 0 1; regs 1; ups U0",
		}},
	)
}

// TestP10_2Kids: their numbers, in order, wherever they stand.
func TestP10_2Kids(t *testing.T) {
	empty := "; regs 0"
	checkRows(t,
		row{"return function() end, function() end, function() end", []string{"Closure 0 0, Closure 1 1, Closure 2 2, Return 0 3; regs 3; kids 1 2 3", empty, empty, empty}},
		row{"return function() return function() end, function() end end, function() end", []string{
			"Closure 0 0, Closure 1 1, Return 0 2; regs 2; kids 1 4", "Closure 0 0, Closure 1 1, Return 0 2; regs 2; kids 2 3", empty, empty, empty,
		}},
		row{"return {function() end, a = function() end, [function() end] = function() end}", []string{
			`Table 0, Const 1 0, Closure 2 0, SetIndex 0 1 2, Const 1 1, Closure 2 1, SetIndex 0 1 2, Closure 1 2, Closure 2 3, SetIndex 0 1 2, Return 0 1; regs 3; consts 1 "a"; kids 1 2 3 4`, empty, empty, empty, empty,
		}},
		row{"a, b[function() end], c = function() end, function(x) return 1 end", []string{
			`GetGlobal 0 0, Closure 1 0, Closure 2 1, Closure 3 2, Nil 4, SetGlobal 1 2, SetIndex 0 1 3, SetGlobal 2 4; regs 5; consts "b" "a" "c"; kids 1 2 3`, empty, empty, "Const 1 0, Return 1 1; regs 2; params 1; consts 1",
		}},
		row{"function f() function g() end end function h() end", []string{
			`Closure 0 0, SetGlobal 0 0, Closure 0 1, SetGlobal 1 0; regs 1; consts "f" "h"; kids 1 3`, `Closure 0 0, SetGlobal 0 0; regs 1; consts "g"; kids 2`, empty, empty,
		}},
		row{"local function f() end local g = function() end if function() end then f(function() end) end", []string{
			"Closure 0 0, Closure 1 1, Closure 2 2, JumpNot 2 7, Move 2 0, Closure 3 3, Call 2 1 0; regs 4; kids 1 2 3 4", empty, empty, empty, empty,
		}},
		row{"for i = function() end, function() end do while function() end do end end return function() end", []string{
			"Closure 0 0, Closure 1 1, Const 2 0, ForPrep 0 8, Closure 4 2, JumpNot 4 7, Jump 4, ForLoop 0 4, Closure 0 3, Return 0 1; regs 5; consts 1; kids 1 2 3 4", empty, empty, empty, empty,
		}},
		row{"return (function() end)(function() end)", []string{"Closure 0 0, Closure 1 1, TailCall 0 1; regs 2; kids 1 2", empty, empty}},
		row{"return function() end > function() end", []string{"Closure 0 0, Closure 1 1, Lt 0 1 0, Return 0 1; regs 2; kids 1 2", empty, empty}},
		row{"return function() return function() return function() end end end", []string{
			"Closure 0 0, Return 0 1; regs 1; kids 1", "Closure 0 0, Return 0 1; regs 1; kids 2", "Closure 0 0, Return 0 1; regs 1; kids 3", empty,
		}},
	)
}
