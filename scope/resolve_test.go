package scope_test

import (
	"testing"

	"heirloom/api"
	"heirloom/scope"
)

func TestP9_1Examples(t *testing.T) {
	checkUses(t, "local a = a", []api.Use{{At: 6, Text: "a"}, {At: 10, Text: "a", Of: -1, Var: -1}})
	checkUses(t, "local x ; f = function(y) return x + y end", []api.Use{
		{At: 6, Text: "x", Held: true}, {At: 10, Text: "f", Of: -1, Var: -1}, {At: 23, Text: "y", Fun: 1, Of: 1}, {At: 33, Text: "x", Fun: 1, Held: true}, {At: 37, Text: "y", Fun: 1, Of: 1},
	})
	checkMarked(t, "local a@0:0.0 = a@0:g", "local x@0:0.0! ; f@0:g = function(y@1:1.0) return x@1:0.0! + y@1:1.0 end")
}

// TestP9_1NoNames: sources without names, with keys, texts, words and remarks that look like some.
func TestP9_1NoNames(t *testing.T) {
	checkMarked(t, "", " ", ";", "-- a", "-- local a\n", "return", "return 1, nil, true, false, \"a\"", "break", "do end", "while true do break end", "if nil then elseif 1 then else end", "return {}, {a = 1}, {[1] = 2, a = {b = 3}}",
		"return function() end", "(function() return end)()", "return (\"a\").b.c", "return - 1, # \"a\", not nil, 1 .. 2", "do do ; end end ;")
	for _, src := range []string{"", "return {a = 1}"} {
		if l, at, err := scope.Resolve(src); len(l) != 0 || at != 0 || err != api.OK {
			t.Errorf("Resolve(%q) = %v, %d, %v", src, l, at, err)
		}
	}
}

// TestP9_1Places: uses come by rising place, whatever stands between the names, with the place of each name itself.
func TestP9_1Places(t *testing.T) {
	checkMarked(t,
		"a@0:g=1", "  a@0:g\n=\t1", "--\na@0:g=1", "(a@0:g).b = 1", "((a@0:g))()", "return(((a@0:g)))", "f@0:g((a@0:g))", "a@0:g,b@0:g,c@0:g=c@0:g,b@0:g,a@0:g",
		"local a@0:0.0,b@0:0.1=b@0:g,a@0:g", "local--\na@0:0.0--\n,--\nb@0:0.1--\n", "function f@0:g(a@1:1.0,b@1:1.1)end", "local function f@0:0.0(a@1:1.0,b@1:1.1)end", "for i@0:0.0=i@0:g,j@0:g,k@0:g do j@0:g(i@0:0.0)end",
		"long_Name_0@0:g = _@0:g + __@0:g + x1@0:g + X1@0:g",
		"local a@0:0.0, b@0:0.1 = function(c@1:1.0) return c@1:1.0 end, a@0:g return a@0:0.0, b@0:0.1",
	)
}

// TestP9_1Statements: names in each kind of statement, of globals and of variables.
func TestP9_1Statements(t *testing.T) {
	checkMarked(t,
		"local a@0:0.0", "local a@0:0.0 = b@0:g, c@0:g", "a@0:g = b@0:g", "a@0:g, b@0:g.c, d@0:g[e@0:g] = f@0:g, g@0:g", "f@0:g()", "f@0:g(a@0:g, b@0:g)", "f@0:g.a(b@0:g)[c@0:g](d@0:g)",
		"if a@0:g then b@0:g = c@0:g elseif d@0:g then e@0:g() elseif f@0:g then else return g@0:g end", "while a@0:g do b@0:g() end", "for i@0:0.0 = a@0:g, b@0:g do c@0:g() end", "for i@0:0.0 = a@0:g, b@0:g, c@0:g do d@0:g() end",
		"do a@0:g() end", "function f@0:g() a@1:g() end", "local function f@0:0.0() a@1:g() end", "return a@0:g", "return a@0:g, b@0:g ;", "(a@0:g)()", "(a@0:g).b, c@0:g = 1",
	)
	checkMarked(t,
		"local a@0:0.0 local b@0:0.1, c@0:0.2 = a@0:0.0", "local a@0:0.0 a@0:0.0 = a@0:0.0", "local a@0:0.0 a@0:0.0.b, a@0:0.0[a@0:0.0] = a@0:0.0, 1", "local f@0:0.0 f@0:0.0(f@0:0.0) (f@0:0.0)()",
		"local a@0:0.0 if a@0:0.0 then a@0:0.0() elseif a@0:0.0 then a@0:0.0() else a@0:0.0() end", "local a@0:0.0 while a@0:0.0 do a@0:0.0 = 1 end", "local a@0:0.0 for i@0:0.1 = a@0:0.0, a@0:0.0, a@0:0.0 do a@0:0.0(i@0:0.1) end",
		"local a@0:0.0 do a@0:0.0() end", "local a@0:0.0 return a@0:0.0, a@0:0.0", "local f@0:0.0 function f@0:0.0() end", "local f@0:0.0! function f@0:0.0!() f@1:0.0!() end", "local f@0:0.0 local function f@0:0.1!() f@1:0.1!() end f@0:0.1!()",
	)
}

// TestP9_1Expressions: names in each kind of expression.
func TestP9_1Expressions(t *testing.T) {
	checkMarked(t,
		"local a@0:0.0 return (a@0:0.0)", "local a@0:0.0 return -a@0:0.0, not a@0:0.0, #a@0:0.0, - - not # a@0:0.0", "local a@0:0.0 return a@0:0.0.b, a@0:0.0[b@0:g], b@0:g[a@0:0.0], a@0:0.0[a@0:0.0][a@0:0.0].a",
		"local a@0:0.0 return a@0:0.0(), a@0:0.0(b@0:g), b@0:g(1, a@0:0.0, 2), a@0:0.0(a@0:0.0)(a@0:0.0)", "local a@0:0.0 return {a@0:0.0}, {a = a@0:0.0}, {[a@0:0.0] = a@0:0.0}, {b@0:g, a@0:0.0, c = a@0:0.0, [1] = d@0:g,}",
		"local a@0:0.0! return function() return a@1:0.0! end", "local a@0:0.0! return function(b@1:1.0) return {a@1:0.0!, function() return a@2:0.0! end} end",
		"local a@0:0.0, b@0:0.1 return a@0:0.0 + b@0:0.1 * c@0:g .. a@0:0.0", "return a@0:g and b@0:g or c@0:g and (d@0:g or e@0:g)",
	)
	for _, sign := range []string{"or", "and", "<", ">", "<=", ">=", "~=", "==", "..", "+", "-", "*", "/", "//", "%"} {
		checkMarked(t, "local a@0:0.0 return a@0:0.0 "+sign+" b@0:g, b@0:g "+sign+" a@0:0.0 "+sign+" (c@0:g "+sign+" a@0:0.0)")
	}
}

// TestP9_1Keys: names behind a point, and ahead of = within braces, are no names of variables; within brackets they are.
func TestP9_1Keys(t *testing.T) {
	checkMarked(t,
		"local a@0:0.0 return a@0:0.0.a", "local a@0:0.0 a@0:0.0.a.a = a@0:0.0.a.a.a", "return a@0:g.a.a, (a@0:g).a, a@0:g().a, a@0:g[a@0:g].a", "local a@0:0.0 return {a = 1}", "local a@0:0.0 return {a = a@0:0.0}", "local a@0:0.0 return {a = {a = a@0:0.0.a}}",
		"local a@0:0.0 return {a@0:0.0 == 1}", "local a@0:0.0 return {[a@0:0.0] = 1}", "local a@0:0.0 return {a = 1, a@0:0.0, a = a@0:0.0, [a@0:0.0.a] = a@0:0.0, a@0:0.0.a}", "local a@0:0.0 a@0:0.0[\"a\"] = \"a\"",
		"local a@0:0.0 f@0:g.a(a@0:0.0).a()", "local a@0:0.0 return function() return b@1:g.a, {a = b@1:g} end", "local a@0:0.0! return function() return {a = a@1:0.0!.a} end",
	)
}

// TestP9_1Parameters: known in their function's block alone.
func TestP9_1Parameters(t *testing.T) {
	checkMarked(t,
		"return function(a@1:1.0) return a@1:1.0 end, a@0:g", "f@0:g(function(a@1:1.0, b@1:1.1, c@1:1.2) return c@1:1.2, a@1:1.0, b@1:1.1 end, a@0:g, b@0:g, c@0:g)", "function f@0:g(a@1:1.0) f@1:g = a@1:1.0 end a@0:g = f@0:g",
		"local function f@0:0.0!(a@1:1.0) f@1:0.0! = a@1:1.0 end a@0:g = f@0:0.0!", "function a@0:g(a@1:1.0) a@1:1.0 = 1 end a@0:g = 1", "local function a@0:0.0(a@1:1.0) a@1:1.0 = 1 end a@0:0.0 = 1",
		"return function(a@1:1.0, a@1:1.1) return a@1:1.1 end", "return function(a@1:1.0, b@1:1.1, a@1:1.2, b@1:1.3) return a@1:1.2, b@1:1.3 end", "local a@0:0.0 return function(a@1:1.0) return a@1:1.0 end, a@0:0.0",
		"return function(a@1:1.0) local a@1:1.1 = a@1:1.0 return a@1:1.1 end", "return function(a@1:1.0!) return function(a@2:2.0) return a@2:2.0 end, function(b@3:3.0) return a@3:1.0! end end",
		"function f@0:g(a@1:1.0) end function g@0:g(b@2:2.0) return a@2:g end", "return function(a@1:1.0) do local a@1:1.1 end return a@1:1.0 end", "(function(a@1:1.0) a@1:1.0() end)(a@0:g)",
	)
}

// TestP9_1Locals: known behind their statement, not in their own list, up to the end of the block.
func TestP9_1Locals(t *testing.T) {
	checkMarked(t,
		"a@0:g = 1 local a@0:0.0 a@0:0.0 = 1", "local a@0:0.0 = a@0:g, a@0:g a@0:0.0()", "local a@0:0.0 local a@0:0.1 = a@0:0.0 a@0:0.1()", "local a@0:0.0, b@0:0.1 = b@0:g, a@0:g return a@0:0.0, b@0:0.1", "local a@0:0.0 = function() return a@1:g end return a@0:0.0",
		"local a@0:0.0! local a@0:0.1 = function() return a@1:0.0! end return a@0:0.1", "local a@0:0.0 = {a = a@0:g, [a@0:g] = function(b@1:1.0) return a@1:g(b@1:1.0) end} a@0:0.0()", "local a@0:0.0, b@0:0.1 local b@0:0.2, c@0:0.3 = a@0:0.0, b@0:0.1 return a@0:0.0, b@0:0.2, c@0:0.3",
		"local a@0:0.0, a@0:0.1 a@0:0.1 = 1", "local a@0:0.0, b@0:0.1, a@0:0.2, a@0:0.3 = a@0:g, b@0:g return a@0:0.3, b@0:0.1", "local a@0:0.0, a@0:0.1 = a@0:g local a@0:0.2, a@0:0.3 = a@0:0.1 return a@0:0.3", "local a@0:0.0 local a@0:0.1 local a@0:0.2 return a@0:0.2",
		"local a@0:0.0 = 1 ; ; a@0:0.0 = 2", "local a@0:0.0 a@0:0.0, b@0:g = b@0:g, a@0:0.0 local b@0:0.1 a@0:0.0, b@0:0.1 = b@0:0.1, a@0:0.0",
	)
}

// TestP9_1LocalFunctions: known in their own function, and behind it.
func TestP9_1LocalFunctions(t *testing.T) {
	checkMarked(t,
		"f@0:g() local function f@0:0.0() end f@0:0.0()", "local function f@0:0.0!() return f@1:0.0!() end return f@0:0.0!", "local function f@0:0.0!(a@1:1.0) local f@1:1.1 = f@1:0.0!(a@1:1.0) return f@1:1.1 end", "local function f@0:0.0(f@1:1.0) return f@1:1.0 end return f@0:0.0",
		"local function f@0:0.0() local function f@1:1.0!() return f@2:1.0! end return f@1:1.0! end return f@0:0.0", "local f@0:0.0 local function f@0:0.1!() return f@1:0.1! end return f@0:0.1!", "local f@0:0.0 = function() return f@1:g end", "local f@0:0.0! function f@0:0.0!() return f@1:0.0! end",
		"local function f@0:0.0!() return g@1:g end local function g@0:0.1!() return f@2:0.0!, g@2:0.1! end", "do local function f@0:0.0() end f@0:0.0() end f@0:g()", "local function f@0:0.0!() return function() return f@2:0.0! end end", "function f@0:g() f@1:g() end f@0:g()",
	)
}
