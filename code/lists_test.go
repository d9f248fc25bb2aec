package code_test

import "testing"

// TestP10_2ListsOfLocals: shorter, as long as, and longer than the registers, with and without a call at the end.
func TestP10_2ListsOfLocals(t *testing.T) {
	checkBodies(t,
		[2]string{"local a", "Nil 0; regs 1"},
		[2]string{"local a, b, c", "Nil 0, Nil 1, Nil 2; regs 3"},
		[2]string{"local a, b, c = 1", "Const 0 0, Nil 1, Nil 2; regs 3; consts 1"},
		[2]string{"local a, b, c = 1, 2", "Const 0 0, Const 1 1, Nil 2; regs 3; consts 1 2"},
		[2]string{"local a, b, c = 1, 2, 3", "Const 0 0, Const 1 1, Const 2 2; regs 3; consts 1 2 3"},
		[2]string{"local a, b, c = 1, 2, 3, 4, 5", "Const 0 0, Const 1 1, Const 2 2, Const 3 3, Const 4 4; regs 5; consts 1 2 3 4 5"},
		[2]string{"local a = f()", `GetGlobal 0 0, Call 0 0 1; regs 1; consts "f"`},
		[2]string{"local a, b, c = f()", `GetGlobal 0 0, Call 0 0 3; regs 3; consts "f"`},
		[2]string{"local a, b, c = 1, f(2)", `Const 0 0, GetGlobal 1 1, Const 2 2, Call 1 1 2; regs 3; consts 1 "f" 2`},
		[2]string{"local a, b, c = 1, 2, f()", `Const 0 0, Const 1 1, GetGlobal 2 2, Call 2 0 1; regs 3; consts 1 2 "f"`},
		[2]string{"local a, b = 1, 2, f()", `Const 0 0, Const 1 1, GetGlobal 2 2, Call 2 0 1; regs 3; consts 1 2 "f"`},
		[2]string{"local a = 1, 2, 3, f(4)", `Const 0 0, Const 1 1, Const 2 2, GetGlobal 3 3, Const 4 4, Call 3 1 1; regs 5; consts 1 2 3 "f" 4`},
		[2]string{"local a, b, c = f(), 1", `GetGlobal 0 0, Call 0 0 1, Const 1 1, Nil 2; regs 3; consts "f" 1`},
		[2]string{"local a, b, c = f(), g()", `GetGlobal 0 0, Call 0 0 1, GetGlobal 1 1, Call 1 0 2; regs 3; consts "f" "g"`},
		[2]string{"local a, b = f(1, 2, 3, 4)", `GetGlobal 0 0, Const 1 1, Const 2 2, Const 3 3, Const 4 4, Call 0 4 2; regs 5; consts "f" 1 2 3 4`},
		[2]string{"local a, b = (f())", `GetGlobal 0 0, Call 0 0 2; regs 2; consts "f"`},
		[2]string{"local a, b = f() + 1", `GetGlobal 0 0, Call 0 0 1, Const 1 1, Add 0 0 1, Nil 1; regs 2; consts "f" 1`},
		[2]string{"local a, b = f().x", `GetGlobal 0 0, Call 0 0 1, Const 1 1, Index 0 0 1, Nil 1; regs 2; consts "f" "x"`},
		[2]string{"local a, b = 1 or f()", `Const 0 0, JumpIf 0 4, GetGlobal 0 1, Call 0 0 1, Nil 1; regs 2; consts 1 "f"`},
		[2]string{"local a, b, c = g(f())", `GetGlobal 0 0, GetGlobal 1 1, Call 1 0 1, Call 0 1 3; regs 3; consts "g" "f"`},
		[2]string{"local a, b, c, d = {}, f()", `Table 0, GetGlobal 1 0, Call 1 0 3; regs 4; consts "f"`},
	)
}

// TestP10_2Locals: one behind the other; a list does not know its own names yet.
func TestP10_2Locals(t *testing.T) {
	checkBodies(t,
		[2]string{"local a = 1 local b = a local c, d = b, a", "Const 0 0, Move 1 0, Move 2 1, Move 3 0; regs 4; consts 1"},
		[2]string{"local a = a local a = a return a", `GetGlobal 0 0, Move 1 0, Move 2 1, Return 2 1; regs 3; consts "a"`},
		[2]string{"local a, a = 1, 2 return a", "Const 0 0, Const 1 1, Move 2 1, Return 2 1; regs 3; consts 1 2"},
		[2]string{"local a = 1, 2, 3 local b", "Const 0 0, Const 1 1, Const 2 2, Nil 1; regs 3; consts 1 2 3"},
		[2]string{"local a = 1 local b, c = f(a)", `Const 0 0, GetGlobal 1 1, Move 2 0, Call 1 1 2; regs 3; consts 1 "f"`},
	)
}

// TestP10_2Targets: of each kind, alone.
func TestP10_2Targets(t *testing.T) {
	checkBodies(t,
		[2]string{"x = 1", `Const 0 0, SetGlobal 1 0; regs 1; consts 1 "x"`},
		[2]string{"local a a = 1", "Nil 0, Const 1 0, Move 0 1; regs 2; consts 1"},
		[2]string{"local a a = a", "Nil 0, Move 1 0, Move 0 1; regs 2"},
		[2]string{"x.y = 1", `GetGlobal 0 0, Const 1 1, Const 2 2, SetIndex 0 1 2; regs 3; consts "x" "y" 1`},
		[2]string{"x[y] = z", `GetGlobal 0 0, GetGlobal 1 1, GetGlobal 2 2, SetIndex 0 1 2; regs 3; consts "x" "y" "z"`},
		[2]string{"x.y.z = 1", `GetGlobal 0 0, Const 1 1, Index 0 0 1, Const 1 2, Const 2 3, SetIndex 0 1 2; regs 3; consts "x" "y" "z" 1`},
		[2]string{"f().x = 1", `GetGlobal 0 0, Call 0 0 1, Const 1 1, Const 2 2, SetIndex 0 1 2; regs 3; consts "f" "x" 1`},
		[2]string{"local t t[1] = 2", "Nil 0, Move 1 0, Const 2 0, Const 3 1, SetIndex 1 2 3; regs 4; consts 1 2"},
	)
	checkRows(t,
		row{"local a a = 1 return function() a = 2 end", []string{
			"Nil 0, NewBox 0, Const 1 0, SetBox 0 1, Closure 1 0, Return 1 1; regs 2; consts 1; kids 1",
			"Const 0 0, SetUp 0 0; regs 1; consts 2; ups L0",
		}},
		row{"function f() end", []string{`Closure 0 0, SetGlobal 0 0; regs 1; consts "f"; kids 1`, "; regs 0"}},
		row{"local f function f() end", []string{"Nil 0, Closure 1 0, Move 0 1; regs 2; kids 1", "; regs 0"}},
		row{"local f function f() f() end", []string{"Nil 0, NewBox 0, Closure 1 0, SetBox 0 1; regs 2; kids 1", "GetUp 0 0, Call 0 0 0; regs 1; ups L0"}},
	)
}

// TestP10_2Assignments: several targets: all tables and keys ahead of the list, all writes behind it, in order.
func TestP10_2Assignments(t *testing.T) {
	checkBodies(t,
		[2]string{"x, y = 1, 2", `Const 0 0, Const 1 1, SetGlobal 2 0, SetGlobal 3 1; regs 2; consts 1 2 "x" "y"`},
		[2]string{"x, y = y, x", `GetGlobal 0 0, GetGlobal 1 1, SetGlobal 1 0, SetGlobal 0 1; regs 2; consts "y" "x"`},
		[2]string{"local a, b a, b = b, a", "Nil 0, Nil 1, Move 2 1, Move 3 0, Move 0 2, Move 1 3; regs 4"},
		[2]string{"x, y, z = 1", `Const 0 0, Nil 1, Nil 2, SetGlobal 1 0, SetGlobal 2 1, SetGlobal 3 2; regs 3; consts 1 "x" "y" "z"`},
		[2]string{"x = 1, 2, 3", `Const 0 0, Const 1 1, Const 2 2, SetGlobal 3 0; regs 3; consts 1 2 3 "x"`},
		[2]string{"x, y, z = f()", `GetGlobal 0 0, Call 0 0 3, SetGlobal 1 0, SetGlobal 2 1, SetGlobal 3 2; regs 3; consts "f" "x" "y" "z"`},
		[2]string{"x, y, z = 1, f()", `Const 0 0, GetGlobal 1 1, Call 1 0 2, SetGlobal 2 0, SetGlobal 3 1, SetGlobal 4 2; regs 3; consts 1 "f" "x" "y" "z"`},
		[2]string{"x, y, z = f(), 1", `GetGlobal 0 0, Call 0 0 1, Const 1 1, Nil 2, SetGlobal 2 0, SetGlobal 3 1, SetGlobal 4 2; regs 3; consts "f" 1 "x" "y" "z"`},
		[2]string{"x, y = 1, 2, f()", `Const 0 0, Const 1 1, GetGlobal 2 2, Call 2 0 1, SetGlobal 3 0, SetGlobal 4 1; regs 3; consts 1 2 "f" "x" "y"`},
		[2]string{"t.a, t.b = 1, 2", `GetGlobal 0 0, Const 1 1, GetGlobal 2 0, Const 3 2, Const 4 3, Const 5 4, SetIndex 0 1 4, SetIndex 2 3 5; regs 6; consts "t" "a" "b" 1 2`},
		[2]string{"x, t.a, y, u[1], z = f()", `GetGlobal 0 0, Const 1 1, GetGlobal 2 2, Const 3 3, GetGlobal 4 4, Call 4 0 5, SetGlobal 5 4, SetIndex 0 1 5, SetGlobal 6 6, SetIndex 2 3 7, SetGlobal 7 8; regs 9; consts "t" "a" "u" 1 "f" "x" "y" "z"`},
		[2]string{"local a a, t[a] = t, a", `Nil 0, GetGlobal 1 0, Move 2 0, GetGlobal 3 0, Move 4 0, Move 0 3, SetIndex 1 2 4; regs 5; consts "t"`},
		[2]string{"t[f()][g()], x = h()", `GetGlobal 0 0, GetGlobal 1 1, Call 1 0 1, Index 0 0 1, GetGlobal 1 2, Call 1 0 1, GetGlobal 2 3, Call 2 0 2, SetIndex 0 1 2, SetGlobal 4 3; regs 4; consts "t" "f" "g" "h" "x"`},
		[2]string{"local a, a a, a = 1", "Nil 0, Nil 1, Const 2 0, Nil 3, Move 1 2, Move 1 3; regs 4; consts 1"},
		[2]string{"local a, b = 1 t.x, a, b = b, 2, 3, 4", `Const 0 0, Nil 1, GetGlobal 2 1, Const 3 2, Move 4 1, Const 5 3, Const 6 4, Const 7 5, SetIndex 2 3 4, Move 0 5, Move 1 6; regs 8; consts 1 "t" "x" 2 3 4`},
	)
	checkRows(t, row{"local o, h return function(p) local l = function() return p, h, l end o, p, l, x, t[h] = f() end", []string{
		"Nil 0, Nil 1, NewBox 0, NewBox 1, Closure 2 0, Return 2 1; regs 3; kids 1",
		`NewBox 0, Closure 1 0, GetGlobal 2 0, GetUp 3 0, GetGlobal 4 1, Call 4 0 5, SetUp 1 4, SetBox 0 5, Move 1 6, SetGlobal 2 7, SetIndex 2 3 8; regs 9; params 1; consts "t" "f" "x"; ups L1 L0; kids 2`,
		`GetUp 0 0, GetUp 1 1, GetGlobal 2 0, Return 0 3; regs 3; consts "l"; ups L0 U0`,
	}})
}

// TestP10_2Do: a call that is a statement wants no answers.
func TestP10_2Do(t *testing.T) {
	checkBodies(t,
		[2]string{"f()", `GetGlobal 0 0, Call 0 0 0; regs 1; consts "f"`},
		[2]string{"f(1, g())", `GetGlobal 0 0, Const 1 1, GetGlobal 2 2, Call 2 0 1, Call 0 2 0; regs 3; consts "f" 1 "g"`},
		[2]string{"local a a(a)(a)", "Nil 0, Move 1 0, Move 2 0, Call 1 1 1, Move 2 0, Call 1 1 0; regs 3"},
		[2]string{"a.b(1) f()", `GetGlobal 0 0, Const 1 1, Index 0 0 1, Const 1 2, Call 0 1 0, GetGlobal 0 3, Call 0 0 0; regs 2; consts "a" "b" 1 "f"`},
		[2]string{"(f or g)()", `GetGlobal 0 0, JumpIf 0 3, GetGlobal 0 1, Call 0 0 0; regs 1; consts "f" "g"`},
	)
}

// TestP10_2Returns: of one call, of a call and more, of nothing.
func TestP10_2Returns(t *testing.T) {
	checkBodies(t,
		[2]string{"return", "Return 0 0; regs 0"},
		[2]string{"local a return", "Nil 0, Return 1 0; regs 1"},
		[2]string{"local a, b, c return ;", "Nil 0, Nil 1, Nil 2, Return 3 0; regs 3"},
		[2]string{"return f()", `GetGlobal 0 0, TailCall 0 0; regs 1; consts "f"`},
		[2]string{"return (f())", `GetGlobal 0 0, TailCall 0 0; regs 1; consts "f"`},
		[2]string{"local a return a(1, a, g())", `Nil 0, Move 1 0, Const 2 0, Move 3 0, GetGlobal 4 1, Call 4 0 1, TailCall 1 3; regs 5; consts 1 "g"`},
		[2]string{"return f()()", `GetGlobal 0 0, Call 0 0 1, TailCall 0 0; regs 1; consts "f"`},
		[2]string{"return f(), 1", `GetGlobal 0 0, Call 0 0 1, Const 1 1, Return 0 2; regs 2; consts "f" 1`},
		[2]string{"return 1, f()", `Const 0 0, GetGlobal 1 1, Call 1 0 1, Return 0 2; regs 2; consts 1 "f"`},
		[2]string{"return f(), g()", `GetGlobal 0 0, Call 0 0 1, GetGlobal 1 1, Call 1 0 1, Return 0 2; regs 2; consts "f" "g"`},
		[2]string{"return f() + 1", `GetGlobal 0 0, Call 0 0 1, Const 1 1, Add 0 0 1, Return 0 1; regs 2; consts "f" 1`},
		[2]string{"return not f()", `GetGlobal 0 0, Call 0 0 1, Not 0 0, Return 0 1; regs 1; consts "f"`},
		[2]string{"return 1 and f()", `Const 0 0, JumpNot 0 4, GetGlobal 0 1, Call 0 0 1, Return 0 1; regs 1; consts 1 "f"`},
		[2]string{"return {f()}", `Table 0, Const 1 0, GetGlobal 2 1, Call 2 0 1, SetIndex 0 1 2, Return 0 1; regs 3; consts 1 "f"`},
		[2]string{"local a return a, nil, a", "Nil 0, Move 1 0, Nil 2, Move 3 0, Return 1 3; regs 4"},
		[2]string{"if a then return f() end return 1", `GetGlobal 0 0, JumpNot 0 4, GetGlobal 0 1, TailCall 0 0, Const 0 2, Return 0 1; regs 1; consts "a" "f" 1`},
	)
}
