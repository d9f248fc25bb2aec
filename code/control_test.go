package code_test

import "testing"

// TestP10_2If: with and without elseif and else; each block but that of the last part jumps to the end.
func TestP10_2If(t *testing.T) {
	checkBodies(t,
		[2]string{"if a then end", `GetGlobal 0 0, JumpNot 0 2; regs 1; consts "a"`},
		[2]string{"if a then f() end", `GetGlobal 0 0, JumpNot 0 4, GetGlobal 0 1, Call 0 0 0; regs 1; consts "a" "f"`},
		[2]string{"if a then f() else g() end", `GetGlobal 0 0, JumpNot 0 5, GetGlobal 0 1, Call 0 0 0, Jump 7, GetGlobal 0 2, Call 0 0 0; regs 1; consts "a" "f" "g"`},
		[2]string{"if a then else end", `GetGlobal 0 0, JumpNot 0 3, Jump 3; regs 1; consts "a"`},
		[2]string{"if a then f() elseif b then g() end", `GetGlobal 0 0, JumpNot 0 5, GetGlobal 0 1, Call 0 0 0, Jump 9, GetGlobal 0 2, JumpNot 0 9, GetGlobal 0 3, Call 0 0 0; regs 1; consts "a" "f" "b" "g"`},
		[2]string{"if a then elseif b then elseif c then else end", `GetGlobal 0 0, JumpNot 0 3, Jump 9, GetGlobal 0 1, JumpNot 0 6, Jump 9, GetGlobal 0 2, JumpNot 0 9, Jump 9; regs 1; consts "a" "b" "c"`},
		[2]string{"if a then elseif b then elseif c then end f()", `GetGlobal 0 0, JumpNot 0 3, Jump 8, GetGlobal 0 1, JumpNot 0 6, Jump 8, GetGlobal 0 2, JumpNot 0 8, GetGlobal 0 3, Call 0 0 0; regs 1; consts "a" "b" "c" "f"`},
		[2]string{"local a if a then if a then f() end else if a then else g() end end", `Nil 0, Move 1 0, JumpNot 1 8, Move 1 0, JumpNot 1 7, GetGlobal 1 0, Call 1 0 0, Jump 13, Move 1 0, JumpNot 1 11, Jump 13, GetGlobal 1 1, Call 1 0 0; regs 2; consts "f" "g"`},
		[2]string{"if a and b then f() end", `GetGlobal 0 0, JumpNot 0 3, GetGlobal 0 1, JumpNot 0 6, GetGlobal 0 2, Call 0 0 0; regs 1; consts "a" "b" "f"`},
		[2]string{"if a < b then return 1 else return 2 end", `GetGlobal 0 0, GetGlobal 1 1, Lt 0 0 1, JumpNot 0 7, Const 0 2, Return 0 1, Jump 9, Const 0 3, Return 0 1; regs 2; consts "a" "b" 1 2`},
		[2]string{"if nil then local x = 1 elseif true then local y, z = 2 else local w end local v", "Nil 0, JumpNot 0 4, Const 0 0, Jump 10, Bool 0 1, JumpNot 0 9, Const 0 1, Nil 1, Jump 10, Nil 0, Nil 0; regs 2; consts 1 2"},
	)
}

func TestP10_2While(t *testing.T) {
	checkBodies(t,
		[2]string{"while a do end", `GetGlobal 0 0, JumpNot 0 3, Jump 0; regs 1; consts "a"`},
		[2]string{"f() while a do g() end h()", `GetGlobal 0 0, Call 0 0 0, GetGlobal 0 1, JumpNot 0 7, GetGlobal 0 2, Call 0 0 0, Jump 2, GetGlobal 0 3, Call 0 0 0; regs 1; consts "f" "a" "g" "h"`},
		[2]string{"local a while a < 1 do a = a + 1 end", "Nil 0, Move 1 0, Const 2 0, Lt 1 1 2, JumpNot 1 10, Move 1 0, Const 2 0, Add 1 1 2, Move 0 1, Jump 1; regs 3; consts 1"},
		[2]string{"while a or b do local c = 1 local d = c end", `GetGlobal 0 0, JumpIf 0 3, GetGlobal 0 1, JumpNot 0 7, Const 0 2, Move 1 0, Jump 0; regs 2; consts "a" "b" 1`},
		[2]string{"while a do while b do f() end end", `GetGlobal 0 0, JumpNot 0 8, GetGlobal 0 1, JumpNot 0 7, GetGlobal 0 2, Call 0 0 0, Jump 2, Jump 0; regs 1; consts "a" "b" "f"`},
		[2]string{"while true do return end", "Bool 0 1, JumpNot 0 4, Return 0 0, Jump 0; regs 1"},
	)
}

// TestP10_2For: with and without a step; its variable lies behind its numbers.
func TestP10_2For(t *testing.T) {
	checkBodies(t,
		[2]string{"for i = 1, 2 do end", "Const 0 0, Const 1 1, Const 2 0, ForPrep 0 5, ForLoop 0 4; regs 4; consts 1 2"},
		[2]string{"for i = 3, 2, 4 do end", "Const 0 0, Const 1 1, Const 2 2, ForPrep 0 5, ForLoop 0 4; regs 4; consts 3 2 4"},
		[2]string{"for i = 3, 2 do end", "Const 0 0, Const 1 1, Const 2 2, ForPrep 0 5, ForLoop 0 4; regs 4; consts 3 2 1"},
		[2]string{"for i = 1, 2, 1.0 do end", "Const 0 0, Const 1 1, Const 2 2, ForPrep 0 5, ForLoop 0 4; regs 4; consts 1 2 0f3ff0000000000000"},
		[2]string{"local a for i = a, f(a) do f(i) end a = 1", `Nil 0, Move 1 0, GetGlobal 2 0, Move 3 0, Call 2 1 1, Const 3 1, ForPrep 1 11, GetGlobal 5 0, Move 6 4, Call 5 1 0, ForLoop 1 7, Const 1 1, Move 0 1; regs 7; consts "f" 1`},
		[2]string{"for i = 1, 2 do local j = i i = j end", "Const 0 0, Const 1 1, Const 2 0, ForPrep 0 8, Move 4 3, Move 5 4, Move 3 5, ForLoop 0 4; regs 6; consts 1 2"},
		[2]string{"for i = i, i do for i = i, i do f(i) end end", `GetGlobal 0 0, GetGlobal 1 0, Const 2 1, ForPrep 0 13, Move 4 3, Move 5 3, Const 6 1, ForPrep 4 12, GetGlobal 8 2, Move 9 7, Call 8 1 0, ForLoop 4 8, ForLoop 0 4; regs 10; consts "i" 1 "f"`},
		[2]string{"for i = 1, 2 do end for j = 3, 4 do f(j) end", `Const 0 0, Const 1 1, Const 2 0, ForPrep 0 5, ForLoop 0 4, Const 0 2, Const 1 3, Const 2 0, ForPrep 0 13, GetGlobal 4 4, Move 5 3, Call 4 1 0, ForLoop 0 9; regs 6; consts 1 2 3 4 "f"`},
		[2]string{"for i = f(), g() do end", `GetGlobal 0 0, Call 0 0 1, GetGlobal 1 1, Call 1 0 1, Const 2 2, ForPrep 0 7, ForLoop 0 6; regs 4; consts "f" "g" 1`},
	)
}

// TestP10_2Break: to the end of the innermost loop of its function.
func TestP10_2Break(t *testing.T) {
	checkBodies(t,
		[2]string{"while a do break end", `GetGlobal 0 0, JumpNot 0 4, Jump 4, Jump 0; regs 1; consts "a"`},
		[2]string{"while a do break break end", `GetGlobal 0 0, JumpNot 0 5, Jump 5, Jump 5, Jump 0; regs 1; consts "a"`},
		[2]string{"for i = 1, 2 do break end f()", `Const 0 0, Const 1 1, Const 2 0, ForPrep 0 6, Jump 6, ForLoop 0 4, GetGlobal 0 2, Call 0 0 0; regs 4; consts 1 2 "f"`},
		[2]string{"while a do if b then break end f() end", `GetGlobal 0 0, JumpNot 0 8, GetGlobal 0 1, JumpNot 0 5, Jump 8, GetGlobal 0 2, Call 0 0 0, Jump 0; regs 1; consts "a" "b" "f"`},
		[2]string{"while a do if b then break else break end do do break end end end", `GetGlobal 0 0, JumpNot 0 9, GetGlobal 0 1, JumpNot 0 6, Jump 9, Jump 7, Jump 9, Jump 9, Jump 0; regs 1; consts "a" "b"`},
		[2]string{"while a do while b do break end break end", `GetGlobal 0 0, JumpNot 0 8, GetGlobal 0 1, JumpNot 0 6, Jump 6, Jump 2, Jump 8, Jump 0; regs 1; consts "a" "b"`},
		[2]string{"while a do break while b do break end break end", `GetGlobal 0 0, JumpNot 0 9, Jump 9, GetGlobal 0 1, JumpNot 0 7, Jump 7, Jump 3, Jump 9, Jump 0; regs 1; consts "a" "b"`},
		[2]string{"for i = 1, 2 do while a do break end break end", `Const 0 0, Const 1 1, Const 2 0, ForPrep 0 10, GetGlobal 4 2, JumpNot 4 8, Jump 8, Jump 4, Jump 10, ForLoop 0 4; regs 5; consts 1 2 "a"`},
		[2]string{"while a do for i = 1, 2 do break end break end", `GetGlobal 0 0, JumpNot 0 10, Const 0 1, Const 1 2, Const 2 1, ForPrep 0 8, Jump 8, ForLoop 0 6, Jump 10, Jump 0; regs 4; consts "a" 1 2`},
	)
	checkRows(t,
		row{"while a do f(function() while b do break end end) break end", []string{
			`GetGlobal 0 0, JumpNot 0 7, GetGlobal 0 1, Closure 1 0, Call 0 1 0, Jump 7, Jump 0; regs 2; consts "a" "f"; kids 1`,
			`GetGlobal 0 0, JumpNot 0 4, Jump 4, Jump 0; regs 1; consts "b"`,
		}},
		row{"f(function() for i = 1, 2 do break end end)", []string{
			`GetGlobal 0 0, Closure 1 0, Call 0 1 0; regs 2; consts "f"; kids 1`,
			"Const 0 0, Const 1 1, Const 2 0, ForPrep 0 6, Jump 6, ForLoop 0 4; regs 4; consts 1 2",
		}},
	)
}

// TestP10_2Blocks: what a block's variables lay in is free behind it; what registers there were counts all the same.
func TestP10_2Blocks(t *testing.T) {
	checkBodies(t,
		[2]string{"do local a = 1 end local b = 2", "Const 0 0, Const 0 1; regs 1; consts 1 2"},
		[2]string{"do local a, b, c end local d return d", "Nil 0, Nil 1, Nil 2, Nil 0, Move 1 0, Return 1 1; regs 3"},
		[2]string{"local a do local b do local c end local d end local e", "Nil 0, Nil 1, Nil 2, Nil 2, Nil 1; regs 3"},
		[2]string{"while a do local b end local c", `GetGlobal 0 0, JumpNot 0 4, Nil 0, Jump 0, Nil 0; regs 1; consts "a"`},
		[2]string{"for i = 1, 2 do local b end local c", "Const 0 0, Const 1 1, Const 2 0, ForPrep 0 6, Nil 4, ForLoop 0 4, Nil 0; regs 5; consts 1 2"},
		[2]string{"do local a = 1 f(a) end f()", `Const 0 0, GetGlobal 1 1, Move 2 0, Call 1 1 0, GetGlobal 0 1, Call 0 0 0; regs 3; consts 1 "f"`},
		[2]string{"do do do end local a end end", "Nil 0; regs 1"},
		[2]string{"do local function f() end end local a", "Closure 0 0, Nil 0; regs 1; kids 1"},
		[2]string{"do return 1 end local a", "Const 0 0, Return 0 1, Nil 0; regs 1; consts 1"},
		[2]string{"local a = 1 do local a = a a = 2 end a = 3", "Const 0 0, Move 1 0, Const 2 1, Move 1 2, Const 1 2, Move 0 1; regs 3; consts 1 2 3"},
	)
}
