package parse_test

import "testing"

func TestP8_1Examples(t *testing.T) {
	checkTrees(t, []row{
		{"a = 1 + 2 * 3", `block@0(assign#1@0(name"a"@0 bin"+"@4(number=1@4 bin"*"@8(number=2@8 number=3@12))))`},
		{"x = a..b..c", `block@0(assign#1@0(name"x"@0 bin".."@4(name"a"@4 bin".."@7(name"b"@7 name"c"@10))))`},
	})
	checkShapes(t, []row{{"x = a..(b..c)", shape(tree(t, "x = a..b..c"))}})
	checkForm(t, "x^", "f() ^= 1", "return 1 ^x")
}

func TestP8_1Blocks(t *testing.T) {
	checkTrees(t, []row{
		{"", "block@0"},
		{"  ", "block@2"},
		{"-- a remark", "block@11"},
		{"\n--\n\t", "block@5"},
		{";", "block@0"},
		{" ; ", "block@1"},
		{" ;;; ;", "block@1"},
		{"break", "block@0(break@0)"},
		{" break ", "block@1(break@1)"},
		{"break break", "block@0(break@0 break@6)"},
		{"break;break", "block@0(break@0 break@6)"},
		{";;break;;;break;;", "block@0(break@2 break@10)"},
		{"-- a\nbreak", "block@5(break@5)"},
		{"return", "block@0(return@0)"},
		{" return ; ", "block@1(return@1)"},
		{"return;", "block@0(return@0)"},
		{"return 1", "block@0(return@0(number=1@7))"},
		{"return 1;", "block@0(return@0(number=1@7))"},
		{"return 1, 2 , 3", "block@0(return@0(number=1@7 number=2@10 number=3@14))"},
		{";return", "block@0(return@1)"},
		{"break return nil", "block@0(break@0 return@6(nil@13))"},
		{"break ; return nil ;", "block@0(break@0 return@8(nil@15))"},
		{"do return end", "block@0(group@0(block@3(return@3)))"},
		{"do return ; end", "block@0(group@0(block@3(return@3)))"},
		{"do return 1 end break", "block@0(group@0(block@3(return@3(number=1@10))) break@16)"},
		{"do return 1 ; end ; break", "block@0(group@0(block@3(return@3(number=1@10))) break@20)"},
	})
}

func TestP8_1LocalStatements(t *testing.T) {
	checkTrees(t, []row{
		{"local a", `block@0(local#1@0(name"a"@6))`},
		{"local a,b", `block@0(local#2@0(name"a"@6 name"b"@8))`},
		{"local a, b , c", `block@0(local#3@0(name"a"@6 name"b"@9 name"c"@13))`},
		{"local a = 1", `block@0(local#1@0(name"a"@6 number=1@10))`},
		{"local a, b = 1", `block@0(local#2@0(name"a"@6 name"b"@9 number=1@13))`},
		{"local a = 1, 2 , x", `block@0(local#1@0(name"a"@6 number=1@10 number=2@13 name"x"@17))`},
		{"local a, a = a, a", `block@0(local#2@0(name"a"@6 name"a"@9 name"a"@13 name"a"@16))`},
		{"local a local b", `block@0(local#1@0(name"a"@6) local#1@8(name"b"@14))`},
		{"local a (f)()", `block@0(local#1@0(name"a"@6) do@8(call@8(name"f"@9)))`},
		{"local function f() end", `block@0(localfunc@0(name"f"@15 func@6(block@19)))`},
		{"local function f ( a ) break end", `block@0(localfunc@0(name"f"@15 func@6(name"a"@19 block@23(break@23))))`},
		{"local function f(a,b,c) ; end", `block@0(localfunc@0(name"f"@15 func@6(name"a"@17 name"b"@19 name"c"@21 block@24)))`},
		{" local\nfunction g(a,a)return a end", `block@1(localfunc@1(name"g"@16 func@7(name"a"@18 name"a"@20 block@22(return@22(name"a"@29)))))`},
	})
}

func TestP8_1FunctionStatements(t *testing.T) {
	checkTrees(t, []row{
		{"function f() end", `block@0(assign#1@0(name"f"@9 func@0(block@13)))`},
		{" function f(a) end", `block@1(assign#1@1(name"f"@10 func@1(name"a"@12 block@15)))`},
		{"function f(a, b) return a, b end break", `block@0(assign#1@0(name"f"@9 func@0(name"a"@11 name"b"@14 block@17(return@17(name"a"@24 name"b"@27)))) break@33)`},
		{"function f() (g)() end", `block@0(assign#1@0(name"f"@9 func@0(block@13(do@13(call@13(name"g"@14))))))`},
	})
}

func TestP8_1Choices(t *testing.T) {
	checkTrees(t, []row{
		{"if a then end", `block@0(if@0(name"a"@3 block@10))`},
		{"if a then break end", `block@0(if@0(name"a"@3 block@10(break@10)))`},
		{"if a then else end", `block@0(if@0(name"a"@3 block@10 block@15))`},
		{"if a then ; else break end", `block@0(if@0(name"a"@3 block@10 block@17(break@17)))`},
		{"if a then elseif b then end", `block@0(if@0(name"a"@3 block@10 name"b"@17 block@24))`},
		{"if a then elseif b then else end", `block@0(if@0(name"a"@3 block@10 name"b"@17 block@24 block@29))`},
		{"if a then break elseif b then elseif c then return else end", `block@0(if@0(name"a"@3 block@10(break@10) name"b"@23 block@30 name"c"@37 block@44(return@44) block@56))`},
		{"if a then elseif b then elseif c then elseif d then end", `block@0(if@0(name"a"@3 block@10 name"b"@17 block@24 name"c"@31 block@38 name"d"@45 block@52))`},
		{"if (a) then end", `block@0(if@0(name"a"@4 block@12))`},
		{"if a then if b then end else end", `block@0(if@0(name"a"@3 block@10(if@10(name"b"@13 block@20)) block@29))`},
	})
	checkForm(t, "if a then return ^if b then end")
}

func TestP8_1Loops(t *testing.T) {
	checkTrees(t, []row{
		{"while a do end", `block@0(while@0(name"a"@6 block@11))`},
		{"while a do break end", `block@0(while@0(name"a"@6 block@11(break@11)))`},
		{" while a do ; ; end", `block@1(while@1(name"a"@7 block@12))`},
		{"for i = 1, 2 do end", `block@0(for@0(name"i"@4 number=1@8 number=2@11 block@16))`},
		{"for i = 1, 2, 3 do end", `block@0(for@0(name"i"@4 number=1@8 number=2@11 number=3@14 block@19))`},
		{"for i = a, b, c do break ; break end", `block@0(for@0(name"i"@4 name"a"@8 name"b"@11 name"c"@14 block@19(break@19 break@27)))`},
		{"do end", "block@0(group@0(block@3))"},
		{"do break end", "block@0(group@0(block@3(break@3)))"},
		{"do do end end do end", "block@0(group@0(block@3(group@3(block@6))) group@14(block@17))"},
		{"while a do while b do end end", `block@0(while@0(name"a"@6 block@11(while@11(name"b"@17 block@22))))`},
	})
}

func TestP8_1Assignments(t *testing.T) {
	checkTrees(t, []row{
		{"a = 1", `block@0(assign#1@0(name"a"@0 number=1@4))`},
		{"a, b = 1", `block@0(assign#2@0(name"a"@0 name"b"@3 number=1@7))`},
		{"a = 1, 2", `block@0(assign#1@0(name"a"@0 number=1@4 number=2@7))`},
		{"a, b, c = x, y", `block@0(assign#3@0(name"a"@0 name"b"@3 name"c"@6 name"x"@10 name"y"@13))`},
		{"a.b = 1", `block@0(assign#1@0(index@0(name"a"@0 text"b"@2) number=1@6))`},
		{"a[b] = 1", `block@0(assign#1@0(index@0(name"a"@0 name"b"@2) number=1@7))`},
		{"a . b, c = 1", `block@0(assign#2@0(index@0(name"a"@0 text"b"@4) name"c"@7 number=1@11))`},
		{"f().b = 1", `block@0(assign#1@0(index@0(call@0(name"f"@0) text"b"@4) number=1@8))`},
		{"f()[1], (a)[2] = 1", `block@0(assign#2@0(index@0(call@0(name"f"@0) number=1@4) index@8(name"a"@9 number=2@12) number=1@17))`},
		{" (a).b = 1", `block@1(assign#1@1(index@1(name"a"@2 text"b"@5) number=1@9))`},
		{"a, (b).c, d = 1", `block@0(assign#3@0(name"a"@0 index@3(name"b"@4 text"c"@7) name"d"@10 number=1@14))`},
		{"a = b c = d", `block@0(assign#1@0(name"a"@0 name"b"@4) assign#1@6(name"c"@6 name"d"@10))`},
		{"a = 1 (f)()", `block@0(assign#1@0(name"a"@0 number=1@4) do@6(call@6(name"f"@7)))`},
		{"a = {} (f)()", `block@0(assign#1@0(name"a"@0 table@4) do@7(call@7(name"f"@8)))`},
		{"a = b ; (f)()", `block@0(assign#1@0(name"a"@0 name"b"@4) do@8(call@8(name"f"@9)))`},
		{"a = b\n(f)()", `block@0(assign#1@0(name"a"@0 call@4(call@4(name"b"@4 name"f"@7))))`},
	})
}

func TestP8_1CallStatements(t *testing.T) {
	checkTrees(t, []row{
		{"f()", `block@0(do@0(call@0(name"f"@0)))`},
		{"f(1)", `block@0(do@0(call@0(name"f"@0 number=1@2)))`},
		{"f(1, a , nil)", `block@0(do@0(call@0(name"f"@0 number=1@2 name"a"@5 nil@9)))`},
		{" a.b()", `block@1(do@1(call@1(index@1(name"a"@1 text"b"@3))))`},
		{"a[1](2)", `block@0(do@0(call@0(index@0(name"a"@0 number=1@2) number=2@5)))`},
		{"f()()(1)", `block@0(do@0(call@0(call@0(call@0(name"f"@0)) number=1@6)))`},
		{" (f)()", `block@1(do@1(call@1(name"f"@2)))`},
		{"((f))(1)", `block@0(do@0(call@0(name"f"@2 number=1@6)))`},
		{"(f()).g()", `block@0(do@0(call@0(index@0(call@1(name"f"@1) text"g"@6))))`},
		{"f() g()", `block@0(do@0(call@0(name"f"@0)) do@4(call@4(name"g"@4)))`},
		{"f() (g)()", `block@0(do@0(call@0(call@0(call@0(name"f"@0) name"g"@5))))`},
		{"f() ; (g)()", `block@0(do@0(call@0(name"f"@0)) do@6(call@6(name"g"@7)))`},
		{"(1)(2)", `block@0(do@0(call@0(number=1@1 number=2@4)))`},
	})
}

func TestP8_1Leaves(t *testing.T) {
	checkTrees(t, []row{
		{"return nil", "block@0(return@0(nil@7))"},
		{"return true", "block@0(return@0(true@7))"},
		{"return false", "block@0(return@0(false@7))"},
		{"return 0", "block@0(return@0(number=0@7))"},
		{"return 9223372036854775807", "block@0(return@0(number=9223372036854775807@7))"},
		{"return 1.5", "block@0(return@0(number=3:3ff8000000000000@7))"},
		{"return 0f3ff0000000000000", "block@0(return@0(number=3:3ff0000000000000@7))"},
		{`return ""`, "block@0(return@0(text@7))"},
		{`return "a b"`, `block@0(return@0(text"a b"@7))`},
		{`return "\x0a\x22"`, `block@0(return@0(text"\n\""@7))`},
		{`return "("`, `block@0(return@0(text"("@7))`},
		{"return a_1", `block@0(return@0(name"a_1"@7))`},
	})
}

func TestP8_1Functions(t *testing.T) {
	checkTrees(t, []row{
		{"return function() end", "block@0(return@0(func@7(block@18)))"},
		{"return function ( a ) end", `block@0(return@0(func@7(name"a"@18 block@22)))`},
		{"return function(a,b) return b end", `block@0(return@0(func@7(name"a"@16 name"b"@18 block@21(return@21(name"b"@28)))))`},
		{"return function() return function() end end", "block@0(return@0(func@7(block@18(return@18(func@25(block@36))))))"},
		{"return (function() end)()", "block@0(return@0(call@7(func@8(block@19))))"},
		{"a = function() ; end (f)()", `block@0(assign#1@0(name"a"@0 func@4(block@15)) do@21(call@21(name"f"@22)))`},
		{"a = function() end + function() end", `block@0(assign#1@0(name"a"@0 bin"+"@4(func@4(block@15) func@21(block@32))))`},
	})
}

func TestP8_1Suffixes(t *testing.T) {
	checkTrees(t, []row{
		{"return a.b.c", `block@0(return@0(index@7(index@7(name"a"@7 text"b"@9) text"c"@11)))`},
		{"return a[b][c.d]", `block@0(return@0(index@7(index@7(name"a"@7 name"b"@9) index@12(name"c"@12 text"d"@14))))`},
		{"return a . b [ 1 ] ( 2 ) . c", `block@0(return@0(index@7(call@7(index@7(index@7(name"a"@7 text"b"@11) number=1@15) number=2@21) text"c"@27)))`},
		{"return (a)", `block@0(return@0(name"a"@8))`},
		{"return ((a))", `block@0(return@0(name"a"@9))`},
		{"return (a).b", `block@0(return@0(index@7(name"a"@8 text"b"@11)))`},
		{"return ((a).b)", `block@0(return@0(index@8(name"a"@9 text"b"@12)))`},
		{"return (f())", `block@0(return@0(call@8(name"f"@8)))`},
		{`return ("x")[1]`, `block@0(return@0(index@7(text"x"@8 number=1@13)))`},
		{"return (a + b)(c)", `block@0(return@0(call@7(bin"+"@8(name"a"@8 name"b"@12) name"c"@15)))`},
		{"return f(g(), (h()))", `block@0(return@0(call@7(name"f"@7 call@9(name"g"@9) call@15(name"h"@15))))`},
		{"return a[(b)]", `block@0(return@0(index@7(name"a"@7 name"b"@10)))`},
		{"return (1)", "block@0(return@0(number=1@8))"},
	})
}

func TestP8_1Tables(t *testing.T) {
	checkTrees(t, []row{
		{"return {}", "block@0(return@0(table@7))"},
		{"return { }", "block@0(return@0(table@7))"},
		{"return {1}", "block@0(return@0(table@7(item@8(number=1@8))))"},
		{"return {1,}", "block@0(return@0(table@7(item@8(number=1@8))))"},
		{"return {1, 2 ,a}", `block@0(return@0(table@7(item@8(number=1@8) item@11(number=2@11) item@14(name"a"@14))))`},
		{"return {1,2,}", "block@0(return@0(table@7(item@8(number=1@8) item@10(number=2@10))))"},
		{"return {a}", `block@0(return@0(table@7(item@8(name"a"@8))))`},
		{"return {a=1}", `block@0(return@0(table@7(pair@8(text"a"@8 number=1@10))))`},
		{"return {a = b , }", `block@0(return@0(table@7(pair@8(text"a"@8 name"b"@12))))`},
		{"return {a==1}", `block@0(return@0(table@7(item@8(bin"=="@8(name"a"@8 number=1@11)))))`},
		{"return {a.b, a(1), a+1}", `block@0(return@0(table@7(item@8(index@8(name"a"@8 text"b"@10)) item@13(call@13(name"a"@13 number=1@15)) item@19(bin"+"@19(name"a"@19 number=1@21)))))`},
		{"return {[1] = 2}", "block@0(return@0(table@7(pair@8(number=1@9 number=2@14))))"},
		{"return { [ a ] = b, [c]=d }", `block@0(return@0(table@7(pair@9(name"a"@11 name"b"@17) pair@20(name"c"@21 name"d"@24))))`},
		{"return {1, a = 2, [3] = 4, 5}", `block@0(return@0(table@7(item@8(number=1@8) pair@11(text"a"@11 number=2@15) pair@18(number=3@19 number=4@24) item@27(number=5@27))))`},
		{"return {(a)}", `block@0(return@0(table@7(item@8(name"a"@9))))`},
		{"return {(a) + b}", `block@0(return@0(table@7(item@8(bin"+"@9(name"a"@9 name"b"@14)))))`},
		{"return {(a).b}", `block@0(return@0(table@7(item@8(index@8(name"a"@9 text"b"@12)))))`},
		{"return {{}, {{}}}", "block@0(return@0(table@7(item@8(table@8) item@12(table@12(item@13(table@13))))))"},
		{"return {[{}] = {}}", "block@0(return@0(table@7(pair@8(table@9 table@15))))"},
	})
}

// TestP8_1NoBlanks: what stands right beside each other is the same.
func TestP8_1NoBlanks(t *testing.T) {
	checkTrees(t, []row{
		{"a=b;c=d", `block@0(assign#1@0(name"a"@0 name"b"@2) assign#1@4(name"c"@4 name"d"@6))`},
		{"do(f)()end", `block@0(group@0(block@2(do@2(call@2(name"f"@3)))))`},
		{`a="x"b="y"`, `block@0(assign#1@0(name"a"@0 text"x"@2) assign#1@5(name"b"@5 text"y"@7))`},
		{"a=1..2", `block@0(assign#1@0(name"a"@0 bin".."@2(number=1@2 number=2@5)))`},
	})
	checkForm(t, `f("a")^{}`)
}
