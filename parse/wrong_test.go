package parse_test

import (
	"strings"
	"testing"

	"heirloom/api"
	"heirloom/lex"
)

// TestP8_1LexErrors: Lex's error and place go ahead of all that the form would say, wherever they stand.
func TestP8_1LexErrors(t *testing.T) {
	checkWrong(t, []wrong{
		{"a $", 2, api.ErrByte},
		{") ) $", 4, api.ErrByte},
		{"x = 1x", 4, api.ErrForm},
		{"end 1x", 4, api.ErrForm},
		{"1x", 0, api.ErrForm},
		{"return 9223372036854775808", 7, api.ErrRange},
		{"end end 9223372036854775808", 8, api.ErrRange},
		{"f(\"a", 2, api.ErrQuote},
		{"end \"a", 4, api.ErrQuote},
		{"f(\"\\q\")", 2, api.ErrQuote},
		{"x ~ y", 2, api.ErrByte},
		{strings.Repeat("(", 100) + "$", 100, api.ErrByte},
		{strings.Repeat("do ", 100) + "1x", 300, api.ErrForm},
		{strings.Repeat(" ", api.MaxSource+1), 0, api.ErrLong},
		{strings.Repeat(";", api.MaxSource+1), 0, api.ErrLong},
		{strings.Repeat(")", api.MaxSource+1), 0, api.ErrLong},
		{strings.Repeat("$", api.MaxSource+1), 0, api.ErrLong},
	})
	for _, src := range []string{"", "$", "a\n\x00", "1..x 2.3.4", "\"", "--\n$", "a 1x \""} {
		_, at, err := lex.Lex(src)
		if err != api.OK {
			checkWrong(t, []wrong{{src, at, err}})
		}
	}
}

// TestP8_1Length: a source of just MaxSource bytes is one.
func TestP8_1Length(t *testing.T) {
	checkTrees(t, []row{
		{strings.Repeat(" ", api.MaxSource), "block@8192"},
		{strings.Repeat(";", api.MaxSource), "block@0"},
		{"break" + strings.Repeat("\n", api.MaxSource-5), "block@0(break@0)"},
		{strings.Repeat(" ", api.MaxSource-5) + "break", "block@8187(break@8187)"},
	})
	checkWrong(t, []wrong{
		{strings.Repeat(" ", api.MaxSource-1) + ")", api.MaxSource - 1, api.ErrForm},
		{"x" + strings.Repeat(" ", api.MaxSource-1), api.MaxSource, api.ErrForm},
		{"x" + strings.Repeat(" ", api.MaxSource), 0, api.ErrLong},
	})
}

func TestP8_1WrongBeginnings(t *testing.T) {
	for _, s := range strings.Fields(`and else elseif end false nil not or then true + - * / // % .. == ~= < <= > >= = ) { } [ ] , . # 1 1.5 "a"`) {
		checkForm(t, "^"+s, "; ^"+s, "break ^"+s, "do end ^"+s, "break ; ^"+s+" f()")
		if s != "end" {
			checkForm(t, "do ^"+s, "do ^"+s+" end", "do break ^"+s)
		}
	}
}

func TestP8_1ExpressionsAlone(t *testing.T) {
	checkForm(t,
		"x^", "x ^", "x -- a remark^", "x ^x", "x ^;", "x ^end", "x ^+ 1", "^1", "^nil", "^\"a\"", "^{}", "^- f()", "^not f()", "^#a", "a ^== b", "f() ^+ 1",
		"a.b^", "a.b ^c", "a[1]^", "a[1] ^;", "(a)^", "(a) ^;", "(f())^", "(f()) ^;", "(f()) ^g()", "(a.b)^", "(a)^= 1", "(1)^", "function ^() end", "do x ^end",
		"x ^break", "x ^local y", "x ^return", "x ^\"a\"", "x ^1", "x ^{}")
}

func TestP8_1WrongTargets(t *testing.T) {
	checkForm(t,
		"f() ^= 1", "f() ^, a = 1", "a, f() ^= 1", "a, f() ^, b = 1", "a, f()^", "a, b, f(1)(2) ^= 1", "a.b() ^= 1",
		"(a) ^= 1", "(a.b) ^= 1", "((a)) ^= 1", "(a) ^, b = 1", "a, (b) ^= 1", "a, (b.c) ^= 1", "a, (b)^", "a, (f()) ^= 1", "(f()) ^= 1",
		"^1 = 1", "^nil = 1", "^\"a\" = 1", "^{} = 1", "^-a = 1", "a, ^1 = 1", "a, ^nil = 1", "a, ^-b = 1", "a, ^not b = 1", "a, ^{} = 1", "a, ^\"a\" = 1",
		"a, ^= 1", "a ^a = 1", "^, a = 1", "a, ^, b = 1", "a,^", "a, ^function() end = 1", "a ^+ b = 1", "a, b ^+ c = 1", "a, b(c)^")
	checkShapes(t, []row{
		{"a, f().b = 1", `block(assign#2(name"a" index(call(name"f") text"b") number=1))`},
		{"a, (f)[1] = 1", `block(assign#2(name"a" index(name"f" number=1) number=1))`},
		{"(f)()[1] = 1", `block(assign#1(index(call(name"f") number=1) number=1))`},
	})
}

func TestP8_1WrongAssignments(t *testing.T) {
	checkForm(t,
		"a =^", "a = ^;", "a = ^= 1", "a = 1 ^= 2", "a = b ^= 1", "a = 1,^", "a = 1, ^;", "a = 1, ^, 2", "a = 1 ^2", "a = b c^", "a ^== 1", "a = ^end", "a = ^)",
		"a = b(c).d ^= 1", "a = 1 ^)", "a = {} ^{}", "a = nil ^.b", "a = 1 ^[2]", "a = \"x\" ^.b", "a = function() end ^.b", "a = b, c ^= 1, 2")
}

func TestP8_1WrongLocals(t *testing.T) {
	checkForm(t,
		"local^", "local ^;", "local ^1", "local ^end", "local ^= 1", "local ^(a)", "local ^local", "local ^\"a\"", "local a,^", "local a, ^= 1", "local a, ^1", "local a, ^function", "local a b^",
		"local a ^.b", "local a ^[1]", "local a^.b = 1", "local a =^", "local a = ^;", "local a = 1,^", "local a = 1 ^= 2", "local a ^+ 1", "local a ^1",
		"local function^", "local function ^()", "local function ^1", "local function f^", "local function f ^= 1", "local function f ^.g()", "local function f(^", "local function f(a^", "local function f(a,^",
		"local function f(a, ^)", "local function f(^1)", "local function f(a ^b)", "local function f(^,a)", "local function f()^", "local function f() ^else", "local function f() end ^end", "local function f(a^.b)")
}

func TestP8_1WrongFunctions(t *testing.T) {
	checkForm(t,
		"function^", "function ^1", "function ^function", "function f^", "function f ^.g() end", "function f ^[1]() end", "function f ^= 1", "function f(^", "function f(^1) end", "function f(^(a)) end",
		"function f(a, ^) end", "function f(a ^; b) end", "function f(^\"a\") end", "function f(^nil) end", "function f()^", "function f() break^", "function f() ^elseif", "function f() end ^)",
		"a = function^", "a = function ^f() end", "a = function(^", "a = function(a^", "a = function(a,^", "a = function(a, ^)", "a = function()^", "a = function() return^", "a = function() return 1 ^x end", "a = function() end ^end")
}

func TestP8_1WrongChoices(t *testing.T) {
	checkForm(t,
		"if^", "if ^then end", "if a^", "if a ^do end", "if a ^end", "if a ^= b then end", "if a then^", "if a then ^then", "if a then else^", "if a then else ^else end", "if a then else ^elseif b then end",
		"if a then elseif^", "if a then elseif ^then end", "if a then elseif b^", "if a then elseif b ^do", "if a then elseif b then^", "if a then elseif b then else ^else end", "if a then end ^end", "if a then end ^else end",
		"if a then else ^then end", "^else end", "^elseif a then end", "if a^, b then end", "if ^if", "if a then x ^else end", "if a then return 1 ^if end")
}

func TestP8_1WrongLoops(t *testing.T) {
	checkForm(t,
		"while^", "while ^do end", "while a^", "while a ^then end", "while a ^end", "while a ^, b do end", "while a do^", "while a do ^else end", "while a do ^then end", "while a do ^elseif", "while a do end ^end",
		"for^", "for ^1", "for ^(i)", "for i^", "for i ^, j", "for i ^do", "for i ^== 1", "for i ^.j = 1, 2 do end", "for i =^", "for i = ^, 1", "for i = 1^", "for i = 1 ^do end", "for i = 1,^", "for i = 1, ^do end",
		"for i = 1, 2^", "for i = 1, 2 ^then", "for i = 1, 2,^", "for i = 1, 2, ^do end", "for i = 1, 2, 3^", "for i = 1, 2, 3 ^, 4 do end", "for i = 1, 2 do^", "for i = 1, 2 do ^else end", "for i = 1, 2 do end ^end", "for ^for",
		"do^", "do break^", "do ^else end", "do ^elseif", "do end ^end", "do do end^")
}

func TestP8_1WrongReturns(t *testing.T) {
	checkForm(t,
		"return 1 ^x", "return ; ^;", "return ; ^break", "return 1 ; ^;", "return 1 ; ^break", "return 1 ^break", "return 1 ^local a", "return 1 ^return", "return ; ^return", "return ^return", "return ^break", "return ^local a = 1",
		"return ^= 1", "return ^, 1", "return 1,^", "return 1, ^;", "return ^)", "return ^end", "return 1 ^end", "return 1 ^)", "return a ^= 1", "return f() ^g()", "return {} ^(f)()", "return ^then", "return ^do end", "return ^if",
		"do return 1 ^x end", "do return ; ^; end", "do return ^break end", "do return 1 ; ^break end", "do return end return ; ^break", "return ^else", "if a then return ^then", "do return^", "do return 1^", "do return ;^")
}

func TestP8_1WrongSuffixes(t *testing.T) {
	checkForm(t,
		"f(^", "f(^,", "f(1^", "f(1,^", "f(1, ^)", "f(1 ^2)", "f(^;", "f(^]", "f(1 ^]", "f(1 ^= 2)", "f(a ^= 2)", "f(^end", "f() ^)", "a.^", "a.^1 = 1", "a.^end = 1", "a.^(b)", "a.^\"b\"", "a. ^.b", "a^..b", "a.^[1]",
		"a[^", "a[^] = 1", "a[1^", "a[1 ^, 2] = 1", "a[1 ^) = 1", "a[^; 1]", "(^", "(^)", "(1^", "(1 ^2)", "(1 ^, 2)()", "(a ^= 1)", "(^=", "x = (^)", "x = (1^", "x = (1 ^]", "x = ((1)^", "x = (1)^)", "x = (1 ^, 2)", "x = ^.. 1")
}

func TestP8_1WrongTables(t *testing.T) {
	checkForm(t,
		"x = {^", "x = {^,}", "x = {1^", "x = {1 ^2}", "x = {1,^", "x = {1, ^, 2}", "x = {1,^,}", "x = {1 ^; 2}", "x = {1 ^)", "x = {^)", "x = {^=", "x = {1 ^= 2}", "x = {a =^", "x = {a = ^}", "x = {a = ^,}", "x = {a = 1 ^= 2}", "x = {a = 1 ^b = 2}",
		"x = {a.b ^= 1}", "x = {(a) ^= 1}", "x = {\"a\" ^= 1}", "x = {a() ^= 1}", "x = {[^", "x = {[^]", "x = {[1^", "x = {[1 ^}", "x = {[1]^", "x = {[1] ^}", "x = {[1] ^1}", "x = {[1] ^, 2}", "x = {[1] ^== 2}", "x = {[1] =^", "x = {[1] = ^}", "x = {[1^, 2] = 3}",
		"x = {^end}", "x = {} ^}", "x = {{}^", "x = {^local}", "x = {nil ^= 1}")
}

// TestP8_1TooEarly: whatever a right source is cut behind, the place is the length or the first token that is wrong then.
func TestP8_1TooEarly(t *testing.T) {
	src := "local function f(a, b) if a < b then return {a, [b] = a.c, d = (a)} elseif a then while b do break end else for i = 1, 2 do f(i)[1], a = -i, nil end end end"
	tree(t, src)
	l, _, _ := lex.Lex(src)
	for i := 1; i < len(l); i++ {
		cut := lex.Join(l[:i]...)
		checkWrong(t, []wrong{{cut, len(cut), api.ErrForm}, {cut + " -- more", len(cut) + 8, api.ErrForm}, {cut + " \n", len(cut) + 2, api.ErrForm}})
	}
}
