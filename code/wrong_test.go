package code_test

import (
	"fmt"
	"strings"
	"testing"

	"heirloom/api"
	"heirloom/code"
	"heirloom/scope"
)

func checkWrong(t *testing.T, src string, at int, err api.Errno) {
	t.Helper()
	p, gotAt, got := code.Compile(src)
	if got != err || gotAt != at || p.Protos != nil {
		t.Errorf("Compile(%.200q) = %v, %d, %v; want %d, %v", src, p, gotAt, got, at, err)
	}
}

// TestP10_2ResolveErrors: scope's errors with their places, ahead of all others.
func TestP10_2ResolveErrors(t *testing.T) {
	many := func(n int) string { return "local a" + strings.Repeat(", a", n-1) }
	for _, r := range []struct {
		src string
		at  int
		err api.Errno
	}{
		{"$", 0, api.ErrByte}, {"a = $", 4, api.ErrByte}, {`a = "b`, 4, api.ErrQuote}, {"return 99999999999999999999", 7, api.ErrRange}, {"x", 1, api.ErrForm}, {"f() = 1", 4, api.ErrForm}, {"return 1 x", 9, api.ErrForm}, {"while a do", 10, api.ErrForm}, {"break break end", 12, api.ErrForm},
		{"return " + strings.Repeat("(", 50), 46, api.ErrDeep}, {strings.Repeat(" ", api.MaxSource+1), 0, api.ErrLong}, {many(61), 186, api.ErrMany}, {"break " + many(61), 192, api.ErrMany}, {many(60) + " break " + "do local b end", 200, api.ErrMany}, {"break a = $", 10, api.ErrByte}, {"break x", 7, api.ErrForm},
		{"f(" + strings.Repeat("1,", 200) + "1) " + many(61), 591, api.ErrMany}, {"f(" + strings.Repeat("1,", 200) + "1) x", 406, api.ErrForm},
	} {
		checkWrong(t, r.src, r.at, r.err)
		if _, at, err := scope.Resolve(r.src); at != r.at || err != r.err {
			t.Errorf("Resolve(%.100q) = %d, %v", r.src, at, err)
		}
	}
}

// TestP10_2StrayBreaks: the first one that is in no loop of its function; its place is where @ stands.
func TestP10_2StrayBreaks(t *testing.T) {
	for _, marked := range []string{
		"@break", "  -- a\n @break", "f() @break", "do @break end", "do do f() @break break end end", "if a then @break end", "if a then else @break end", "if a then elseif b then @break end", "if a then f() elseif b then @break else break end break",
		"while a do end @break", "for i = 1, 2 do break end @break", "while a do break end do @break end while a do break end break", "while a do f(function() @break end) end", "for i = 1, 2 do function f() @break end end", "while a do local function f() if a then @break end end break end break",
		"while function() @break end do break end break", "for i = 1, function() @break end do break end", "return function() @break end", "while a do return function() while b do break end @break end end", "f(function() while a do break end end) @break", "function f() while a do break end end @break break break",
		"a[function() @break end] = function() break end", "a, b[function() @break end], c = function() break end", "return {function() @break end, function() break end}", "return 1 + (function() @break end)()", "return {[function() @break end] = function() break end}", "while a do while b do break end break end @break",
		"function f() @break end function g() break end break", "local function f() @break end break", "local a = function() while b do break end @break end, function() break end break", "return function() return function() @break end, function() break end end",
	} {
		at := strings.IndexByte(marked, '@')
		checkWrong(t, strings.ReplaceAll(marked, "@", ""), at, api.ErrState)
	}
}

// TestP10_2ErrorOrder: a stray break is told ahead of too many registers, in whatever function, wherever they stand.
func TestP10_2ErrorOrder(t *testing.T) {
	wide := "f(" + strings.Repeat("1,", 130) + "1)"
	checkWrong(t, wide, 0, api.ErrMany)
	checkWrong(t, wide+" break", len(wide)+1, api.ErrState)
	checkWrong(t, "break "+wide, 0, api.ErrState)
	checkWrong(t, "function f() "+wide+" end break", len(wide)+18, api.ErrState)
	checkWrong(t, wide+" function f() break end", len(wide)+14, api.ErrState)
	checkWrong(t, "function f() "+wide+" end", 0, api.ErrMany)
	checkWrong(t, "f(function() return function() "+wide+" end end)", 0, api.ErrMany)
	checkWrong(t, wide+" function f() end "+wide, 0, api.ErrMany)
}

// locals are so many statements that make a variable each.
func locals(n int) string { return strings.Repeat("local a ", n) }

// TestP10_2Registers: just MaxRegs, and one more, by each way in which they are needed; ahead of what is asked for stand so many locals.
func TestP10_2Registers(t *testing.T) {
	ones := func(n int) string { return strings.Repeat("1,", n-1) + "1" }
	names := func(n int) string { return strings.Repeat("x,", n-1) + "x" }
	for _, r := range []struct {
		most int // of these there may be so many
		src  func(n int) string
	}{
		{119, func(n int) string { return "f(" + ones(n) + ")" }},
		{59, func(n int) string { return locals(60) + "f(" + ones(n) + ")" }},
		{119, func(n int) string { return "return f(" + ones(n) + ")" }},
		{119, func(n int) string { return "x = f(" + ones(n) + ")" }},
		{118, func(n int) string { return "return 1, f(" + ones(n) + ")" }},
		{120, func(n int) string { return "return " + ones(n) }},
		{60, func(n int) string { return locals(60) + "return " + ones(n) }},
		{120, func(n int) string { return "local a = " + ones(n) }},
		{61, func(n int) string { return locals(59) + "local a = " + ones(n) }},
		{120, func(n int) string { return "x = " + ones(n) }},
		{120, func(n int) string { return names(n) + " = 1" }},
		{120, func(n int) string { return names(n) + " = f()" }},
		{120, func(n int) string { return names(n) + " = 1, 2, f()" }},
		{60, func(n int) string { return locals(60) + names(n) + " = f()" }},
		{118, func(n int) string { return "x.y," + names(n-1) + " = f()" }},
		{40, func(n int) string { return strings.Repeat("x.y,", n-1) + "x.y = f()" }},
		{40, func(n int) string { return strings.Repeat("x.y,", n-1) + "x.y = 1" }},
		{117, func(n int) string { return "x.y = " + strings.Repeat("1,", n) + "1" }},
		{117, func(n int) string { return "return {f(" + ones(n) + ")}" }},
		{116, func(n int) string { return "for i = 1, 2 do x = " + ones(n) + " end" }},
		{117, func(n int) string { return "local a for i = 1, f(" + ones(n) + ") do end" }},
		{118, func(n int) string { return "return function(a) f(" + ones(n) + ") end" }},
		{118, func(n int) string { return "local function g() g() end f(" + ones(n) + ")" }},
	} {
		p := compiled(t, r.src(r.most))
		if regs := max(p.Protos[0].Regs, p.Protos[len(p.Protos)-1].Regs); regs != api.MaxRegs {
			t.Errorf("Compile(%.100q) has %d registers", r.src(r.most), regs)
		}
		checkFollows(t, r.src(r.most), p)
		checkWrong(t, r.src(r.most+1), 0, api.ErrMany)
	}
}

// TestP10_2NestedRegisters: what is nested needs a register more on each level.
func TestP10_2NestedRegisters(t *testing.T) {
	nested := func(variables, ahead, n int) string {
		return locals(variables) + "return " + strings.Repeat("1,", ahead) + strings.Repeat("x..", n) + "x"
	}
	p := compiled(t, nested(60, 30, 29))
	if p.Protos[0].Regs != api.MaxRegs {
		t.Error(p.Protos[0].Regs)
	}
	checkWrong(t, nested(60, 30, 30), 0, api.ErrMany)
	checkWrong(t, nested(60, 31, 29), 0, api.ErrMany)
	loops := func(n int, inner string) string {
		return strings.Repeat("for i = 1, 2 do ", n) + inner + strings.Repeat(" end", n)
	}
	if p = compiled(t, loops(30, "")); p.Protos[0].Regs != api.MaxRegs {
		t.Error(p.Protos[0].Regs)
	}
	checkWrong(t, loops(31, ""), 0, api.ErrMany)
	checkWrong(t, loops(30, "local a"), 0, api.ErrMany)
	checkWrong(t, loops(30, "f()"), 0, api.ErrMany)
	compiled(t, loops(30, "return"))
	compiled(t, loops(29, "local a, b, c local d")+" "+loops(29, "return 1, 2, 3, 4"))
	tables := func(variables, n int) string {
		return locals(variables) + "return " + strings.Repeat("1,", 10) + strings.Repeat("{", n) + "1" + strings.Repeat("}", n)
	}
	if p = compiled(t, tables(60, 24)); p.Protos[0].Regs != 60+10+2*24+1 {
		t.Error(p.Protos[0].Regs)
	}
	compiled(t, tables(59, 25))
	checkWrong(t, tables(60, 25), 0, api.ErrMany)
}

// TestP10_2FreeAgain: blocks that have ended need nothing any more.
func TestP10_2FreeAgain(t *testing.T) {
	block := "do " + locals(60) + "return " + strings.Repeat("1,", 59) + "1 end "
	p := compiled(t, strings.Repeat(block, 8))
	if len(p.Protos) != 1 || p.Protos[0].Regs != api.MaxRegs {
		t.Error(p.Protos[0].Regs)
	}
	loop := "for i = 1, 2 do " + locals(59) + "end while 1 do " + locals(60) + "end if 1 then " + locals(60) + "else " + locals(60) + "end "
	if p = compiled(t, loop+loop+loop); p.Protos[0].Regs != 63 {
		t.Error(p.Protos[0].Regs)
	}
}

// TestP10_2Great: a source as long as one may be, with very many constants, functions, jumps.
func TestP10_2Great(t *testing.T) {
	var b strings.Builder
	for n := 100; b.Len() < api.MaxSource-10; n++ {
		fmt.Fprintf(&b, "x=%d ", n)
	}
	p := compiled(t, b.String())
	if len(p.Protos[0].Consts) != len(p.Protos[0].Code)/2+1 || !code.Right(p) {
		t.Error(len(p.Protos[0].Consts), len(p.Protos[0].Code))
	}
	p = compiled(t, strings.Repeat("function f()end ", api.MaxSource/16))
	if len(p.Protos) != api.MaxSource/16+1 || len(p.Protos[0].Kids) != api.MaxSource/16 || !code.Right(p) {
		t.Error(len(p.Protos))
	}
	p = compiled(t, "while a do "+strings.Repeat("break ", 1300)+"end")
	if len(p.Protos[0].Code) != 1304 || !code.Right(p) {
		t.Error(len(p.Protos[0].Code))
	}
}
