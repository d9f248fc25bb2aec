package scope_test

import (
	"fmt"
	"strings"
	"testing"

	"heirloom/api"
)

// names are n names with commas between them, each one another text.
func names(n int) string {
	l := make([]string, n)
	for i := range l {
		l[i] = fmt.Sprintf("n%d", i)
	}
	return strings.Join(l, ",")
}

// locals are n variables, each by a statement of its own.
func locals(n int) string { return strings.Repeat("local l ", n) }

// checkMany: in a source, ^ stands ahead of the name with which it is one too many. Without that mark all is right.
func checkMany(t *testing.T, marked string) {
	t.Helper()
	ahead, behind, is := strings.Cut(marked, "^")
	if is {
		checkRefused(t, ahead+behind, len(ahead), api.ErrMany)
	} else {
		checkFollows(t, marked)
	}
}

// around puts what stands in a function's block into sources: as the source itself, in functions of each kind, within others that have variables of their own.
func around(inner string) []string {
	return []string{
		inner,
		"function f() " + inner + " end",
		"local function f() " + inner + " end",
		"return function() " + inner + " end",
		"local " + names(60) + " f(function() " + inner + " end)",
		"local function f(" + names(59) + ") local g return function() " + inner + " end end",
		"local a = function(b) for i = 1, 2 do local c while a do f({g = function() " + inner + " end}) end end end",
		"local " + names(60) + " = function(" + names(60) + ") return function() " + inner + " end end",
	}
}

// TestP9_1Many: just MaxLocals variables of one function, and one more, by each way in which they become known.
func TestP9_1Many(t *testing.T) {
	if api.MaxLocals != 60 {
		t.Fatal(api.MaxLocals)
	}
	for _, inner := range []string{
		"local " + names(60), "local " + names(60) + ",^x", "local " + names(60) + ",^x,y,z", "local " + names(60) + " = 1, a", "local " + names(60) + ",^x = 1, a",
		locals(60), locals(60) + "local ^l", locals(59) + "local a, ^b = a", locals(59) + "local a = a local ^a = a", locals(60) + "local ^a, b, c local d", locals(30) + "local " + names(30), locals(30) + "local " + names(30) + ",^a",
		locals(59) + "for i = 1, 2 do end", locals(60) + "for ^i = 1, 2 do end", locals(58) + "for i = 1, 2 do local a end", locals(59) + "for i = 1, 2 do local ^a end", locals(58) + "for i = 1, 2 do for j = 1, 2 do end end", locals(59) + "for i = 1, 2 do for ^j = 1, 2 do end end", locals(60) + "for ^i = a, function() end do local b end",
		locals(59) + "local function f() end", locals(60) + "local function ^f() end", locals(60) + "local function ^f(a) local b return f end", locals(60) + "function f() end", locals(60) + "function l(a) local b end", locals(60) + "l = function(a, b) local c end",
		locals(59) + "do local a end", locals(60) + "do local ^a end", locals(60) + "while a do local ^a end", locals(60) + "if a then local ^a end", locals(60) + "if a then elseif a then local ^a end", locals(60) + "if a then else local ^a end", locals(60) + "do local function ^f() end end",
		locals(60) + "l = b.c {}"[:7] + " b() return l", "local a " + locals(59) + " return a",
	} {
		for _, src := range around(inner) {
			checkMany(t, src)
		}
	}
}

// TestP9_1ManyParameters: parameters count with what is known in their function's block.
func TestP9_1ManyParameters(t *testing.T) {
	for _, r := range []struct{ params, block string }{
		{names(60), ""}, {names(60) + ",^x", ""}, {names(60) + ",^x,y", "local a"}, {names(60) + ",^n0", ""}, {names(59), "local a"}, {names(60), "local ^a"}, {names(59), "local a, ^b = a"}, {names(1), locals(59)}, {names(1), locals(59) + "local ^a"}, {names(59), "for i = 1, 2 do end"},
		{names(60), "for ^i = 1, 2 do end"}, {names(60), "local function ^f() end"}, {names(60), "return function(" + names(60) + ") end"}, {names(60), "return function(" + names(60) + ", ^a) end"}, {names(60), "function f(" + names(60) + ") local ^a end"}, {names(60), "n0 = n1"}, {names(60), "do local ^n0 end"},
	} {
		for _, open := range []string{"function f", "local function f", "return function", "local a, b = function", "local " + names(60) + " n1 = function", "for i = 1, function"} {
			end := " end"
			if strings.HasPrefix(open, "for") {
				end += " do local a end"
			}
			checkMany(t, open+"("+r.params+") "+r.block+end)
		}
	}
}

// TestP9_1ManyBlocksThatEnd: what is not known any more does not count; at one time there are never more than MaxLocals.
func TestP9_1ManyBlocksThatEnd(t *testing.T) {
	for _, block := range []string{"do local a, b, c end ", "while a do local a, b, c end ", "if a then local a, b, c elseif b then local d, e, f else local a, b, c end ", "for i = 1, 2 do local a, b end ", "for i = a, b, c do for j = i, 2 do local a end local b, c end ", "do local function f(a, b, c, d) end local g, h end "} {
		for _, inner := range []string{
			strings.Repeat(block, 12) + locals(57) + strings.Repeat(block, 12) + locals(3), strings.Repeat(block, 12) + locals(57) + strings.Repeat(block, 12) + locals(3) + "local ^a", locals(57) + strings.Repeat(block, 3) + "do " + locals(3) + "end " + locals(3) + "do local ^x end", "do " + locals(60) + "end " + block + locals(60),
		} {
			for _, src := range around(inner)[:4] {
				checkMany(t, src)
			}
		}
	}
	for _, inner := range []string{
		strings.Repeat("do local a end ", 100) + "local a", "do " + locals(60) + "end do " + locals(60) + "end", "do " + locals(60) + "end do " + locals(60) + "local ^a end", "if a then " + locals(60) + " elseif b then " + locals(60) + " else " + locals(60) + " end", "if a then " + locals(60) + " elseif b then " + locals(60) + " else " + locals(60) + "local ^a end",
		locals(30) + "do " + locals(30) + "end while a do " + locals(30) + "end for i = 1, 2 do " + locals(29) + "end " + locals(30), locals(30) + "do " + locals(20) + "do " + locals(10) + "end " + locals(10) + "do local ^a end end", "do " + locals(59) + "do local a end local b end " + locals(60) + "do end local ^c",
		strings.Repeat("for i = 1, 2 do end ", 70) + strings.Repeat("local function f(a) end ", 60), strings.Repeat("f(function(a) local b end) ", 70) + locals(60), strings.Repeat("function f() local a end ", 70) + locals(60) + " local ^a",
	} {
		for _, src := range around(inner)[:4] {
			checkMany(t, src)
		}
	}
}

// TestP9_1ManyFunctions: each function's variables count for themselves; those of the function around are again as many as ahead.
func TestP9_1ManyFunctions(t *testing.T) {
	full := locals(60)
	for _, src := range []string{
		full + "f(function() " + full + "g(function() " + full + "h(function() " + full + " end) end) end)", full + "f(function() " + full + "g(function() " + full + "h(function() " + full + " local ^a end) end) end)",
		locals(59) + "f(function() " + full + " end) local a f(function() " + full + " end) local ^b", "local " + names(60) + " = function() " + full + " end", locals(59) + "local function f() " + full + " end f(function(" + names(60) + ") end)", locals(59) + "local function f() " + full + " end local ^a",
		"for i = function(" + names(60) + ") end, function() " + full + " end do " + locals(59) + " end", "for i = function(" + names(60) + ") end, function() " + full + " end do " + locals(59) + " local ^a end", "return function(" + names(60) + ") end, function(" + names(60) + ") end, function(" + names(60) + ", ^a) end",
		"local a return function(" + names(59) + ") return a, function() return n1, a end end", "local a return function(" + names(60) + ") return a, function() return n1, a end, n2 end",
	} {
		checkMany(t, src)
	}
}

// TestP9_1ManyTwice: of several names with each of which it is one too many the one that would become known first is told.
func TestP9_1ManyTwice(t *testing.T) {
	for _, src := range []string{
		"local " + names(60) + ", ^a, b local c", "do " + locals(60) + "local ^a end do " + locals(60) + " local a end", "return function(" + names(60) + ", ^a) local b end, function(" + names(61) + ") end", locals(60) + "local function ^f(" + names(61) + ") end",
		"local " + names(61) + " = function(" + names(60) + ", ^a) end", locals(60) + "for i = function() " + locals(60) + "local ^a end, 2 do end", "local function f(" + names(60) + ", ^a) " + locals(60) + " end " + locals(60),
	} {
		checkMany(t, src)
	}
}
