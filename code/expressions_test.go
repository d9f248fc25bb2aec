package code_test

import (
	"fmt"
	"strings"
	"testing"

	"heirloom/api"
	"heirloom/code"
	"heirloom/num"
)

// TestP10_2Examples: the chapter's.
func TestP10_2Examples(t *testing.T) {
	checkRows(t,
		row{"return 1 + 2", []string{"Const 0 0, Return 0 1; regs 1; consts 3"}},
		row{"local a, b = f()", []string{`GetGlobal 0 0, Call 0 0 2; regs 2; consts "f"`}},
	)
	p := compiled(t, "return 1 + 2")
	want := []api.Ins{{Op: 3, A: 0, B: 0}, {Op: 36, A: 0, B: 1}, {Op: 36, A: 0, B: 0}}
	if len(p.Protos) != 1 || fmt.Sprint(p.Protos[0].Code) != fmt.Sprint(want) || p.Protos[0].Regs != 1 {
		t.Error(p)
	}
}

// TestP10_2Empty: a source without a statement has one function, which needs no register.
func TestP10_2Empty(t *testing.T) {
	for _, src := range []string{"", ";", " ;; -- a", "do end", "do do ; end end"} {
		checkRows(t, row{src, []string{"; regs 0"}})
	}
	checkBodies(t, [2]string{"return", "Return 0 0; regs 0"}, [2]string{"do return end", "Return 0 0; regs 0"})
}

// TestP10_2Leaves: what is no more than one instruction.
func TestP10_2Leaves(t *testing.T) {
	checkBodies(t,
		[2]string{"return nil", "Nil 0, Return 0 1; regs 1"},
		[2]string{"return true", "Bool 0 1, Return 0 1; regs 1"},
		[2]string{"return false", "Bool 0 0, Return 0 1; regs 1"},
		[2]string{"return 7", "Const 0 0, Return 0 1; regs 1; consts 7"},
		[2]string{"return 1.5", "Const 0 0, Return 0 1; regs 1; consts 0f3ff8000000000000"},
		[2]string{`return "a"`, `Const 0 0, Return 0 1; regs 1; consts "a"`},
		[2]string{`return ""`, `Const 0 0, Return 0 1; regs 1; consts ""`},
		[2]string{`return "a\x00\xff"`, `Const 0 0, Return 0 1; regs 1; consts "a\x00\xff"`},
		[2]string{"return a", `GetGlobal 0 0, Return 0 1; regs 1; consts "a"`},
		[2]string{"return function() end", "Closure 0 0, Return 0 1; regs 1; kids 1"},
		[2]string{"return {}", "Table 0, Return 0 1; regs 1"},
		[2]string{"return (nil)", "Nil 0, Return 0 1; regs 1"},
		[2]string{"local a return a", "Nil 0, Move 1 0, Return 1 1; regs 2"},
	)
}

// TestP10_2Signs: the instruction of each sign.
func TestP10_2Signs(t *testing.T) {
	for sign, want := range map[string]string{
		"+": "Add 0 0 1", "-": "Sub 0 0 1", "*": "Mul 0 0 1", "/": "Div 0 0 1", "//": "IDiv 0 0 1", "%": "Mod 0 0 1", "..": "Concat 0 0 1", "==": "Eq 0 0 1", "<": "Lt 0 0 1", "<=": "Le 0 0 1", "~=": "Eq 0 0 1, Not 0 0", ">": "Lt 0 1 0", ">=": "Le 0 1 0",
	} {
		checkBodies(t, [2]string{"return a " + sign + " b", `GetGlobal 0 0, GetGlobal 1 1, ` + want + `, Return 0 1; regs 2; consts "a" "b"`})
		shifted := strings.NewReplacer("0", "1", "1", "2").Replace(want)
		checkBodies(t, [2]string{"local c = c return a " + sign + " b", `GetGlobal 0 0, GetGlobal 1 1, GetGlobal 2 2, ` + shifted + `, Return 1 1; regs 3; consts "c" "a" "b"`})
	}
	checkBodies(t,
		[2]string{"return - a", `GetGlobal 0 0, Neg 0 0, Return 0 1; regs 1; consts "a"`},
		[2]string{"return not a", `GetGlobal 0 0, Not 0 0, Return 0 1; regs 1; consts "a"`},
		[2]string{"return # a", `GetGlobal 0 0, Len 0 0, Return 0 1; regs 1; consts "a"`},
		[2]string{"return a, not - # b", `GetGlobal 0 0, GetGlobal 1 1, Len 1 1, Neg 1 1, Not 1 1, Return 0 2; regs 2; consts "a" "b"`},
		[2]string{"return not 1", "Const 0 0, Not 0 0, Return 0 1; regs 1; consts 1"},
		[2]string{"return not nil == true", "Nil 0, Not 0 0, Bool 1 1, Eq 0 0 1, Return 0 1; regs 2"},
		[2]string{`return - "a"`, `Const 0 0, Neg 0 0, Return 0 1; regs 1; consts "a"`},
	)
}

// TestP10_2SignsWithin: the left part lies in r while the right one is put into r + 1.
func TestP10_2SignsWithin(t *testing.T) {
	checkBodies(t,
		[2]string{"return a + b * c", `GetGlobal 0 0, GetGlobal 1 1, GetGlobal 2 2, Mul 1 1 2, Add 0 0 1, Return 0 1; regs 3; consts "a" "b" "c"`},
		[2]string{"return a * b + c", `GetGlobal 0 0, GetGlobal 1 1, Mul 0 0 1, GetGlobal 1 2, Add 0 0 1, Return 0 1; regs 2; consts "a" "b" "c"`},
		[2]string{"return a .. b .. c", `GetGlobal 0 0, GetGlobal 1 1, GetGlobal 2 2, Concat 1 1 2, Concat 0 0 1, Return 0 1; regs 3; consts "a" "b" "c"`},
		[2]string{"return a > (b >= c)", `GetGlobal 0 0, GetGlobal 1 1, GetGlobal 2 2, Le 1 2 1, Lt 0 1 0, Return 0 1; regs 3; consts "a" "b" "c"`},
		[2]string{"return (a ~= b) ~= c", `GetGlobal 0 0, GetGlobal 1 1, Eq 0 0 1, Not 0 0, GetGlobal 1 2, Eq 0 0 1, Not 0 0, Return 0 1; regs 2; consts "a" "b" "c"`},
		[2]string{"return a - - b", `GetGlobal 0 0, GetGlobal 1 1, Neg 1 1, Sub 0 0 1, Return 0 1; regs 2; consts "a" "b"`},
	)
}

// TestP10_2AndOr: the right part is put into the same register, and jumped past.
func TestP10_2AndOr(t *testing.T) {
	checkBodies(t,
		[2]string{"return a and b", `GetGlobal 0 0, JumpNot 0 3, GetGlobal 0 1, Return 0 1; regs 1; consts "a" "b"`},
		[2]string{"return a or b", `GetGlobal 0 0, JumpIf 0 3, GetGlobal 0 1, Return 0 1; regs 1; consts "a" "b"`},
		[2]string{"return a and b or c", `GetGlobal 0 0, JumpNot 0 3, GetGlobal 0 1, JumpIf 0 5, GetGlobal 0 2, Return 0 1; regs 1; consts "a" "b" "c"`},
		[2]string{"return a or b and c", `GetGlobal 0 0, JumpIf 0 5, GetGlobal 0 1, JumpNot 0 5, GetGlobal 0 2, Return 0 1; regs 1; consts "a" "b" "c"`},
		[2]string{"return a and (b or c)", `GetGlobal 0 0, JumpNot 0 5, GetGlobal 0 1, JumpIf 0 5, GetGlobal 0 2, Return 0 1; regs 1; consts "a" "b" "c"`},
		[2]string{"return 1 + (nil and 2)", "Const 0 0, Nil 1, JumpNot 1 4, Const 1 1, Add 0 0 1, Return 0 1; regs 2; consts 1 2"},
		[2]string{"return (nil or 2) + 1", "Nil 0, JumpIf 0 3, Const 0 0, Const 1 1, Add 0 0 1, Return 0 1; regs 2; consts 2 1"},
		[2]string{"return 1 and 2", "Const 0 0, JumpNot 0 3, Const 0 1, Return 0 1; regs 1; consts 1 2"},
		[2]string{"return a and b + c", `GetGlobal 0 0, JumpNot 0 5, GetGlobal 0 1, GetGlobal 1 2, Add 0 0 1, Return 0 1; regs 2; consts "a" "b" "c"`},
		[2]string{"local x = a and b", `GetGlobal 0 0, JumpNot 0 3, GetGlobal 0 1; regs 1; consts "a" "b"`},
		[2]string{"x = a or f()", `GetGlobal 0 0, JumpIf 0 4, GetGlobal 0 1, Call 0 0 1, SetGlobal 2 0; regs 1; consts "a" "f" "x"`},
	)
}

func TestP10_2Index(t *testing.T) {
	checkBodies(t,
		[2]string{"return a.b", `GetGlobal 0 0, Const 1 1, Index 0 0 1, Return 0 1; regs 2; consts "a" "b"`},
		[2]string{"return a[b]", `GetGlobal 0 0, GetGlobal 1 1, Index 0 0 1, Return 0 1; regs 2; consts "a" "b"`},
		[2]string{"return a.b.c", `GetGlobal 0 0, Const 1 1, Index 0 0 1, Const 1 2, Index 0 0 1, Return 0 1; regs 2; consts "a" "b" "c"`},
		[2]string{"return a[b[c]]", `GetGlobal 0 0, GetGlobal 1 1, GetGlobal 2 2, Index 1 1 2, Index 0 0 1, Return 0 1; regs 3; consts "a" "b" "c"`},
		[2]string{"local a return 1, a[a]", "Nil 0, Const 1 0, Move 2 0, Move 3 0, Index 2 2 3, Return 1 2; regs 4; consts 1"},
		[2]string{"return ({}).a", `Table 0, Const 1 0, Index 0 0 1, Return 0 1; regs 2; consts "a"`},
	)
}

// TestP10_2Calls: how many arguments there are, and that one answer is wanted; a call that is an argument, the last one too, has one answer.
func TestP10_2Calls(t *testing.T) {
	checkBodies(t,
		[2]string{"x = f()", `GetGlobal 0 0, Call 0 0 1, SetGlobal 1 0; regs 1; consts "f" "x"`},
		[2]string{"x = f(1)", `GetGlobal 0 0, Const 1 1, Call 0 1 1, SetGlobal 2 0; regs 2; consts "f" 1 "x"`},
		[2]string{"x = f(a, nil, b)", `GetGlobal 0 0, GetGlobal 1 1, Nil 2, GetGlobal 3 2, Call 0 3 1, SetGlobal 3 0; regs 4; consts "f" "a" "b" "x"`},
		[2]string{"x = f(g(), h())", `GetGlobal 0 0, GetGlobal 1 1, Call 1 0 1, GetGlobal 2 2, Call 2 0 1, Call 0 2 1, SetGlobal 3 0; regs 3; consts "f" "g" "h" "x"`},
		[2]string{"x = f()()", `GetGlobal 0 0, Call 0 0 1, Call 0 0 1, SetGlobal 1 0; regs 1; consts "f" "x"`},
		[2]string{"x = a.b(1)", `GetGlobal 0 0, Const 1 1, Index 0 0 1, Const 1 2, Call 0 1 1, SetGlobal 3 0; regs 2; consts "a" "b" 1 "x"`},
		[2]string{"x = 1 + f(2)", `Const 0 0, GetGlobal 1 1, Const 2 2, Call 1 1 1, Add 0 0 1, SetGlobal 3 0; regs 3; consts 1 "f" 2 "x"`},
		[2]string{"x = (function() end)()", `Closure 0 0, Call 0 0 1, SetGlobal 0 0; regs 1; consts "x"; kids 1`},
	)
}

// TestP10_2Tables: of items the places from 1 on, pairs between do not count; a call that is an item, the last one too, has one answer.
func TestP10_2Tables(t *testing.T) {
	checkBodies(t,
		[2]string{"return {a}", `Table 0, Const 1 0, GetGlobal 2 1, SetIndex 0 1 2, Return 0 1; regs 3; consts 1 "a"`},
		[2]string{`return {"a", "b"}`, `Table 0, Const 1 0, Const 2 1, SetIndex 0 1 2, Const 1 2, Const 2 3, SetIndex 0 1 2, Return 0 1; regs 3; consts 1 "a" 2 "b"`},
		[2]string{"return {a = b}", `Table 0, Const 1 0, GetGlobal 2 1, SetIndex 0 1 2, Return 0 1; regs 3; consts "a" "b"`},
		[2]string{"return {[a] = b}", `Table 0, GetGlobal 1 0, GetGlobal 2 1, SetIndex 0 1 2, Return 0 1; regs 3; consts "a" "b"`},
		[2]string{"return {nil, a = true, false, [nil] = 5, {}}", `Table 0, Const 1 0, Nil 2, SetIndex 0 1 2, Const 1 1, Bool 2 1, SetIndex 0 1 2, Const 1 2, Bool 2 0, SetIndex 0 1 2, Nil 1, Const 2 3, SetIndex 0 1 2, Const 1 4, Table 2, SetIndex 0 1 2, Return 0 1; regs 3; consts 1 "a" 2 5 3`},
		[2]string{"return {f(), g()}", `Table 0, Const 1 0, GetGlobal 2 1, Call 2 0 1, SetIndex 0 1 2, Const 1 2, GetGlobal 2 3, Call 2 0 1, SetIndex 0 1 2, Return 0 1; regs 3; consts 1 "f" 2 "g"`},
		[2]string{"return 1, {{2}}", `Const 0 0, Table 1, Const 2 0, Table 3, Const 4 0, Const 5 1, SetIndex 3 4 5, SetIndex 1 2 3, Return 0 2; regs 6; consts 1 2`},
		[2]string{"return {[f()] = g(h())}", `Table 0, GetGlobal 1 0, Call 1 0 1, GetGlobal 2 1, GetGlobal 3 2, Call 3 0 1, Call 2 1 1, SetIndex 0 1 2, Return 0 1; regs 4; consts "f" "g" "h"`},
	)
}

// TestP10_2Constants: each is put in once, in the order in which they are asked for; those are alike whose V and S are.
func TestP10_2Constants(t *testing.T) {
	checkBodies(t,
		[2]string{"return 1, 2, 1, 3, 2, 1", "Const 0 0, Const 1 1, Const 2 0, Const 3 2, Const 4 1, Const 5 0, Return 0 6; regs 6; consts 1 2 3"},
		[2]string{`return "a", "b", "a", "A", ""`, `Const 0 0, Const 1 1, Const 2 0, Const 3 2, Const 4 3, Return 0 5; regs 5; consts "a" "b" "A" ""`},
		[2]string{`return 1, 1.0, "1", 0, 0.0, -0.0`, `Const 0 0, Const 1 1, Const 2 2, Const 3 3, Const 4 4, Const 5 5, Return 0 6; regs 6; consts 1 0f3ff0000000000000 "1" 0 0f0000000000000000 0f8000000000000000`},
		[2]string{`return "", 0, {}`, `Const 0 0, Const 1 1, Table 2, Return 0 3; regs 3; consts "" 0`},
		[2]string{`a = "a" return a, "a", a.a, {a = a}`, `Const 0 0, SetGlobal 0 0, GetGlobal 0 0, Const 1 0, GetGlobal 2 0, Const 3 0, Index 2 2 3, Table 3, Const 4 0, GetGlobal 5 0, SetIndex 3 4 5, Return 0 4; regs 6; consts "a"`},
		[2]string{"return {5, 6, 1, 2}", "Table 0, Const 1 0, Const 2 1, SetIndex 0 1 2, Const 1 2, Const 2 3, SetIndex 0 1 2, Const 1 4, Const 2 0, SetIndex 0 1 2, Const 1 5, Const 2 2, SetIndex 0 1 2, Return 0 1; regs 3; consts 1 5 2 6 3 4"},
		[2]string{"x = y y = x", `GetGlobal 0 0, SetGlobal 1 0, GetGlobal 0 1, SetGlobal 0 0; regs 1; consts "y" "x"`},
		[2]string{"for i = 5, 9 do f(1) end", `Const 0 0, Const 1 1, Const 2 2, ForPrep 0 8, GetGlobal 4 3, Const 5 2, Call 4 1 0, ForLoop 0 4; regs 6; consts 5 9 1 "f"`},
		[2]string{"return 0.0 / 0.0, 0f7ff8000000000001, - (0.0 / 0.0)", "Const 0 0, Const 1 0, Const 2 0, Return 0 3; regs 3; consts 0f7ff8000000000001"},
	)
	checkRows(t, row{`x = 1 return function() return 2, 1, "x" end, 2`, []string{
		`Const 0 0, SetGlobal 1 0, Closure 0 0, Const 1 2, Return 0 2; regs 2; consts 1 "x" 2; kids 1`,
		`Const 0 0, Const 1 1, Const 2 2, Return 0 3; regs 3; consts 2 1 "x"`,
	}})
}

// TestP10_2Folded: the program is that of the folded tree; what num refuses is left to be done.
func TestP10_2Folded(t *testing.T) {
	one := func(src string, v api.Value) {
		t.Helper()
		checkBodies(t, [2]string{"return " + src, "Const 0 0, Return 0 1; regs 1; consts " + num.Text(v)})
	}
	one("1 + 2 * 3", num.Int(7))
	one("7 - 9", num.Int(-2))
	one("- 1", num.Int(-1))
	one("- - 1", num.Int(1))
	one("-7 // 2", num.Int(-4))
	one("-7 % 2", num.Int(1))
	one("1 / 2", num.Float(0.5))
	one("9223372036854775807 + 1", num.Int(-1<<63))
	one("(1 + 2) * (3 - 4) // - 2 + 0.5", num.Float(1.5))
	checkBodies(t,
		[2]string{"return 1 // 0", "Const 0 0, Const 1 1, IDiv 0 0 1, Return 0 1; regs 2; consts 1 0"},
		[2]string{"return 1 % 0", "Const 0 0, Const 1 1, Mod 0 0 1, Return 0 1; regs 2; consts 1 0"},
		[2]string{"return 2.5 // 1", "Const 0 0, Const 1 1, IDiv 0 0 1, Return 0 1; regs 2; consts 0f4004000000000000 1"},
		[2]string{"return (1 + 1) % (2 - 2) + 3", "Const 0 0, Const 1 1, Mod 0 0 1, Const 1 2, Add 0 0 1, Return 0 1; regs 2; consts 2 0 3"},
		[2]string{"return - (1 // 0)", "Const 0 0, Const 1 1, IDiv 0 0 1, Neg 0 0, Return 0 1; regs 2; consts 1 0"},
		[2]string{"return 1 .. 2", "Const 0 0, Const 1 1, Concat 0 0 1, Return 0 1; regs 2; consts 1 2"},
		[2]string{"return 1 < 2, 1 == 1", "Const 0 0, Const 1 1, Lt 0 0 1, Const 1 0, Const 2 0, Eq 1 1 2, Return 0 2; regs 3; consts 1 2"},
		[2]string{"return a + 1 + 2", `GetGlobal 0 0, Const 1 1, Add 0 0 1, Const 1 2, Add 0 0 1, Return 0 1; regs 2; consts "a" 1 2`},
		[2]string{"return 1 + 2 + a", `Const 0 0, GetGlobal 1 1, Add 0 0 1, Return 0 1; regs 2; consts 3 "a"`},
		[2]string{`return 1 + "2"`, `Const 0 0, Const 1 1, Add 0 0 1, Return 0 1; regs 2; consts 1 "2"`},
		[2]string{"local a, b = 1 + 1, 2 - 2 f({1 + 2, [3 * 3] = - 4}, 5 // 5)", `Const 0 0, Const 1 1, GetGlobal 2 2, Table 3, Const 4 3, Const 5 4, SetIndex 3 4 5, Const 4 5, Const 5 6, SetIndex 3 4 5, Const 4 3, Call 2 2 0; regs 6; consts 2 0 "f" 1 3 9 -4`},
		[2]string{"for i = 1 + 1, 2 * 2, - 1 do end", "Const 0 0, Const 1 1, Const 2 2, ForPrep 0 5, ForLoop 0 4; regs 4; consts 2 4 -1"},
		[2]string{"if 1 - 1 then end while 2 - 1 do end", "Const 0 0, JumpNot 0 2, Const 0 1, JumpNot 0 5, Jump 2; regs 1; consts 0 1"},
	)
}

// kindAt is an expression with what it becomes, its registers told from r on, its constants by what they say, its jumps by how far they go.
type kindAt struct {
	src  string
	code []string
}

var kindsAt = []kindAt{
	{"nil", []string{"Nil r0"}}, {"true", []string{"Bool r0 1"}}, {"false", []string{"Bool r0 0"}}, {"5", []string{"Const r0 =5"}}, {`"t"`, []string{`Const r0 ="t"`}}, {"v", []string{"Move r0 0"}}, {"w", []string{"GetBox r0 1"}}, {"g", []string{`GetGlobal r0 ="g"`}},
	{"function() end", []string{"Closure r0 k"}}, {"v + w", []string{"Move r0 0", "GetBox r1 1", "Add r0 r0 r1"}}, {"v ~= nil", []string{"Move r0 0", "Nil r1", "Eq r0 r0 r1", "Not r0 r0"}}, {"v > w", []string{"Move r0 0", "GetBox r1 1", "Lt r0 r1 r0"}},
	{"v and w", []string{"Move r0 0", "JumpNot r0 +2", "GetBox r0 1"}}, {"v or w", []string{"Move r0 0", "JumpIf r0 +2", "GetBox r0 1"}}, {"not v", []string{"Move r0 0", "Not r0 r0"}}, {"-v", []string{"Move r0 0", "Neg r0 r0"}}, {"#w", []string{"GetBox r0 1", "Len r0 r0"}},
	{"v.a", []string{"Move r0 0", `Const r1 ="a"`, "Index r0 r0 r1"}}, {"w[v]", []string{"GetBox r0 1", "Move r1 0", "Index r0 r0 r1"}}, {"{v}", []string{"Table r0", "Const r1 =1", "Move r2 0", "SetIndex r0 r1 r2"}}, {"{a = w}", []string{"Table r0", `Const r1 ="a"`, "GetBox r2 1", "SetIndex r0 r1 r2"}},
	{"v(w, 5)", []string{"Move r0 0", "GetBox r1 1", "Const r2 =5", "Call r0 2 1"}}, {"2 + 3", []string{"Const r0 =5"}},
}

// put is what the expression becomes in a register.
func (k kindAt) put(r int) []string {
	swap := strings.NewReplacer("r0", fmt.Sprint(r), "r1", fmt.Sprint(r+1), "r2", fmt.Sprint(r+2))
	var out []string
	for _, s := range k.code {
		out = append(out, swap.Replace(s))
	}
	return out
}

// loose tells a function with its constants by what they say, its jumps by how far they go, its kids without their number.
func loose(p api.Proto) []string {
	var out []string
	for at, i := range p.Code {
		s := strings.Fields(insText(i))
		switch i.Op {
		case api.IConst, api.IGetGlobal:
			s[2] = "=" + constText(p.Consts[i.B])
		case api.ISetGlobal:
			s[1] = "=" + constText(p.Consts[i.A])
		case api.IClosure:
			s[2] = "k"
		case api.IJump:
			s[1] = fmt.Sprintf("%+d", i.A-at)
		case api.IJumpIf, api.IJumpNot, api.IForPrep, api.IForLoop:
			s[2] = fmt.Sprintf("%+d", i.B-at)
		}
		out = append(out, strings.Join(s, " "))
	}
	return out
}

// TestP10_2EveryPlace: every kind of expression at every place at which one can stand, behind the variables v and, held, w.
func TestP10_2EveryPlace(t *testing.T) {
	const ahead = "local v, w h = function() return w end "
	first := []string{"Nil 0", "Nil 1", "NewBox 1", "Closure 2 k", `SetGlobal ="h" 2`}
	for _, k := range kindsAt {
		call := strings.HasPrefix(k.src, "v(")
		answers := func(r, n int) []string { // as the last one of a list
			l := k.put(r)
			if call {
				l[len(l)-1] = fmt.Sprintf("Call %d 2 %d", r, n)
			}
			return l
		}
		back := append(k.put(2), "Return 2 1")
		if call {
			back[len(back)-2] = "TailCall 2 2"
			back = back[:len(back)-1]
		}
		two := append(k.put(2), "Return 2 1")
		for src, parts := range map[string][][]string{
			"return E":                    {back},
			"return E, E":                 {k.put(2), k.put(3), {"Return 2 2"}},
			"local a = E":                 {k.put(2)},
			"local a = E, E":              {k.put(2), k.put(3)},
			"local a, b = E":              {answers(2, 2), {"Nil 3"}},
			"local a, b = 0,E":            {{"Const 2 =0"}, k.put(3)},
			"x = E":                       {k.put(2), {`SetGlobal ="x" 2`}},
			"v = E":                       {k.put(2), {"Move 0 2"}},
			"w = E":                       {k.put(2), {"SetBox 1 2"}},
			"x[E] = E":                    {{`GetGlobal 2 ="x"`}, k.put(3), k.put(4), {"SetIndex 2 3 4"}},
			"x[0], x = 1, E":              {{`GetGlobal 2 ="x"`, "Const 3 =0", "Const 4 =1"}, k.put(5), {"SetIndex 2 3 4", `SetGlobal ="x" 5`}},
			"(E).a = 0":                   {k.put(2), {`Const 3 ="a"`, "Const 4 =0", "SetIndex 2 3 4"}},
			"f(E)":                        {{`GetGlobal 2 ="f"`}, k.put(3), {"Call 2 1 0"}},
			"f(0, E, E)":                  {{`GetGlobal 2 ="f"`, "Const 3 =0"}, k.put(4), k.put(5), {"Call 2 3 0"}},
			"do (E)(E) end":               {k.put(2), k.put(3), {"Call 2 1 0"}},
			"return (E)[E]":               {k.put(2), k.put(3), {"Index 2 2 3", "Return 2 1"}},
			"return {E, E}":               {{"Table 2", "Const 3 =1"}, k.put(4), {"SetIndex 2 3 4", "Const 3 =2"}, k.put(4), {"SetIndex 2 3 4", "Return 2 1"}},
			"return {[E] = E}":            {{"Table 2"}, k.put(3), k.put(4), {"SetIndex 2 3 4", "Return 2 1"}},
			"return 0 == (E)":             {{"Const 2 =0"}, k.put(3), {"Eq 2 2 3", "Return 2 1"}},
			"return (E) .. (E)":           {k.put(2), k.put(3), {"Concat 2 2 3", "Return 2 1"}},
			"return # (E)":                {k.put(2), {"Len 2 2", "Return 2 1"}},
			"return (E) and 0":            {k.put(2), {"JumpNot 2 +2", "Const 2 =0", "Return 2 1"}},
			"return nil or (E)":           {{"Nil 2", fmt.Sprintf("JumpIf 2 %+d", len(k.code)+1)}, two},
			"if E then f() end":           {k.put(2), {"JumpNot 2 +3", `GetGlobal 2 ="f"`, "Call 2 0 0"}},
			"if 0 then elseif E then end": {{"Const 2 =0", "JumpNot 2 +2", fmt.Sprintf("Jump %+d", len(k.code)+2)}, k.put(2), {"JumpNot 2 +1"}},
			"while E do end":              {k.put(2), {"JumpNot 2 +2", fmt.Sprintf("Jump %+d", -len(k.code)-1)}},
			"for i = E, E, E do end":      {k.put(2), k.put(3), k.put(4), {"ForPrep 2 +2", "ForLoop 2 +0"}},
		} {
			want := append([]string{}, first...)
			for i, l := range parts {
				if src == "local a, b = E" && i == 1 && call {
					continue
				}
				want = append(want, l...)
			}
			want = append(want, "Return 0 0")
			src = ahead + strings.ReplaceAll(src, "E", k.src)
			p := compiled(t, src)
			if got := loose(p.Protos[0]); strings.Join(got, "\n") != strings.Join(want, "\n") {
				t.Errorf("Compile(%q):\n%q\nwant:\n%q", src, got, want)
			}
			checkFollows(t, src, p)
		}
	}
}

// TestP10_2Constant: what a constant is made of.
func TestP10_2Constant(t *testing.T) {
	p, _, _ := code.Compile(`return 1, "a", 2.0`)
	want := []api.Const{{V: api.Value{T: api.TInt, N: 1}}, {V: api.Value{T: api.TStr, N: 0}, S: "a"}, {V: num.Float(2)}}
	if fmt.Sprint(p.Protos[0].Consts) != fmt.Sprint(want) {
		t.Error(p.Protos[0].Consts)
	}
}
