package scope_test

import "testing"

// TestP9_1For: what a for counts with is known in its block alone.
func TestP9_1For(t *testing.T) {
	checkMarked(t,
		"for i@0:0.0 = i@0:g, i@0:g, i@0:g do i@0:0.0 = i@0:0.0 end i@0:g = 1", "local i@0:0.0 for i@0:0.1 = i@0:0.0, i@0:0.0 do i@0:0.1() end i@0:0.0()", "for i@0:0.0 = 1, 2 do local i@0:0.1 = i@0:0.0 i@0:0.1() end i@0:g()", "for i@0:0.0 = 1, 2 do for i@0:0.1 = i@0:0.0, 1 do i@0:0.1() end i@0:0.0() end",
		"for i@0:0.0 = 1, 2 do for j@0:0.1 = i@0:0.0, 1 do i@0:0.0(j@0:0.1) end j@0:g(i@0:0.0) end", "for i@0:0.0 = 1, 2 do end for i@0:0.1 = 1, 2 do i@0:0.1() end", "for i@0:0.0 = function(i@1:1.0) return i@1:1.0 end, function() return i@2:g end do end", "for i@0:0.0! = 1, 2 do f@0:g(function() return i@1:0.0! end) end i@0:g()",
		"return function() for i@1:1.0 = 1, 2 do i@1:1.0() end return i@1:g end",
	)
}

// TestP9_1BlocksThatEnd: what became known in a block is not known behind it; what was known ahead of it is again.
func TestP9_1BlocksThatEnd(t *testing.T) {
	checkMarked(t,
		"do local a@0:0.0 a@0:0.0() end a@0:g()", "do local a@0:0.0 end do a@0:g() end", "local a@0:0.0 do local a@0:0.1 a@0:0.1() end a@0:0.0()", "local a@0:0.0 do a@0:0.0() local a@0:0.1 do a@0:0.1() local a@0:0.2 a@0:0.2() end a@0:0.1() end a@0:0.0()",
		"while a@0:g do local a@0:0.0 a@0:0.0() end a@0:g()", "local a@0:0.0 while a@0:0.0 do local a@0:0.1 = a@0:0.0 a@0:0.1() end a@0:0.0()",
		"if a@0:g then local a@0:0.0 a@0:0.0() end a@0:g()", "if a@0:g then local a@0:0.0 a@0:0.0() elseif a@0:g then a@0:g() else a@0:g() end a@0:g()", "if 1 then elseif a@0:g then local a@0:0.0 a@0:0.0() elseif a@0:g then a@0:g() else a@0:g() end a@0:g()",
		"if 1 then a@0:g() else local a@0:0.0 a@0:0.0() end a@0:g()", "local a@0:0.0 if a@0:0.0 then local a@0:0.1 a@0:0.1() elseif a@0:0.0 then local a@0:0.2 a@0:0.2() else local a@0:0.3 a@0:0.3() end a@0:0.0()",
		"for i@0:0.0 = 1, 2 do local a@0:0.1 a@0:0.1() end a@0:g(i@0:g)", "local a@0:0.0 for i@0:0.1 = 1, a@0:0.0 do local a@0:0.2 a@0:0.2() end a@0:0.0()", "do local function a@0:0.0() end a@0:0.0() end a@0:g()",
		"return function() local a@1:1.0 return a@1:1.0 end, a@0:g", "function f@0:g() local a@1:1.0 a@1:1.0() end a@0:g()", "local function f@0:0.0() local a@1:1.0 a@1:1.0() end a@0:g()", "do local a@0:0.0 return a@0:0.0 end a@0:g()", "do do do local a@0:0.0 end a@0:g() end a@0:g() end a@0:g()",
		"while true do local a@0:0.0 if a@0:0.0 then local b@0:0.1 = a@0:0.0 break end b@0:g(a@0:0.0) end a@0:g(b@0:g)",
	)
}

// TestP9_1Numbers: the variables of a function are numbered in the order in which they become known; blocks that have ended give no number back, functions within take none.
func TestP9_1Numbers(t *testing.T) {
	checkMarked(t,
		"do local a@0:0.0 end local b@0:0.1 do local c@0:0.2, d@0:0.3 end for i@0:0.4 = 1, 2 do local e@0:0.5 end local f@0:0.6", "if 1 then local a@0:0.0 elseif 2 then local a@0:0.1 else local a@0:0.2 end local a@0:0.3 return a@0:0.3",
		"local a@0:0.0 = function() local b@1:1.0 local c@1:1.1 end local d@0:0.1", "local a@0:0.0, b@0:0.1 = function(c@1:1.0) local d@1:1.1 end, function() local e@2:2.0 end local f@0:0.2", "local function f@0:0.0(a@1:1.0) local b@1:1.1 local function g@1:1.2(c@2:2.0) local d@2:2.1 end local e@1:1.3 end local h@0:0.1",
		"return function(a@1:1.0) do local b@1:1.1 end local c@1:1.2 return function(d@2:2.0) end, c@1:1.2 end", "for i@0:0.0 = function(a@1:1.0) local b@1:1.1 end, 1 do end for j@0:0.1 = 1, 2 do local k@0:0.2 end local l@0:0.3", "local a@0:0.0 do local a@0:0.1 do local a@0:0.2 end local a@0:0.3 end local a@0:0.4 return a@0:0.4",
		"while 1 do local a@0:0.0 end while 1 do local a@0:0.1 end return function() while 1 do local a@1:1.0 end while 1 do local a@1:1.1 end end",
	)
}

// TestP9_1Functions: they are numbered by the places at which they begin.
func TestP9_1Functions(t *testing.T) {
	checkMarked(t,
		"return function() a@1:g() end, function() a@2:g() end, a@0:g, function() a@3:g() end", "return function() return function() return a@2:g, function() return a@3:g end end, a@1:g, function() return a@4:g end end, function() return a@5:g end",
		"function f@0:g() a@1:g() end function g@0:g() a@2:g() end", "function f@0:g() function g@1:g() a@2:g() end a@1:g() end function h@0:g() a@3:g() end a@0:g()", "local function f@0:0.0() a@1:g() end local function g@0:0.1() a@2:g() end local h@0:0.2 = function() a@3:g() end",
		"local a@0:0.0, b@0:0.1 = function() c@1:g() end, function() c@2:g() end", "a@0:g[function() b@1:g() end], c@0:g = function() d@2:g() end, function() e@3:g() end", "f@0:g(function(a@1:1.0) end, {function(a@2:2.0) end, b = function(a@3:3.0) end, [function(a@4:4.0) end] = function(a@5:5.0) end})",
		"if function() a@1:g() end then f@0:g(function() a@2:g() end) elseif function() a@3:g() end then return function() a@4:g() end else return function() a@5:g() end end", "while function() a@1:g() end do f@0:g(function() a@2:g() end) end",
		"for i@0:0.0 = function() a@1:g() end, function() a@2:g() end, function() a@3:g() end do f@0:g(function() a@4:g() end) end", "return (function() a@1:g() end)(function() a@2:g() end) + (function() a@3:g() end)(), - function() a@4:g() end", "return function() return function() return function() return a@3:g end end end",
		"do function f@0:g() a@1:g() end end do local function f@0:0.0() a@2:g() end end return function() a@3:g() end", "local function f@0:0.0(a@1:1.0) return function(b@2:2.0) end end local function g@0:0.1(c@3:3.0) end",
	)
}

// TestP9_1Around: the same text in functions within one another, and in those one behind the other.
func TestP9_1Around(t *testing.T) {
	checkMarked(t,
		"local a@0:0.0 return function() local a@1:1.0 return function() local a@2:2.0 return a@2:2.0 end, a@1:1.0 end, a@0:0.0", "local a@0:0.0! return function() return a@1:0.0!, function() return a@2:0.0!, function() local a@3:3.0 return a@3:3.0 end, a@2:0.0! end end", "return function(a@1:1.0) end, function(a@2:2.0) return a@2:2.0 end, function() return a@3:g end",
		"function f@0:g() local a@1:1.0 a@1:1.0() end function g@0:g() local a@2:2.0 a@2:2.0() end function h@0:g() a@3:g() end", "local a@0:0.0! function f@0:g() a@1:0.0!() local a@1:1.0! function g@1:g() a@2:1.0!() local a@2:2.0 a@2:2.0() end a@1:1.0!() end a@0:0.0!()",
		"local a@0:0.0! function f@0:g() return a@1:0.0! end local a@0:0.1 return a@0:0.1", "function f@0:g() return a@1:g end local a@0:0.0 return a@0:0.0", "local a@0:0.0 do local a@0:0.1! function f@0:g() return a@1:0.1! end end return a@0:0.0", "return function() do local a@1:1.0! f@1:g(function() return a@2:1.0! end) end return function() return a@3:g end end",
		"local b@0:0.0! return function(a@1:1.0!) return function(c@2:2.0!) return function() return a@3:1.0!, b@3:0.0!, c@3:2.0!, d@3:g end end end",
	)
}

// TestP9_1Held: by a name in the next function, in one further in, ahead of and behind other names, read and written; not by names in its own function, nor by others of the same text.
func TestP9_1Held(t *testing.T) {
	checkMarked(t,
		"local a@0:0.0 a@0:0.0() do a@0:0.0() end", "local a@0:0.0! return function() return a@1:0.0! end", "local a@0:0.0! return function() return function() return a@2:0.0! end end", "local a@0:0.0! return function() a@1:0.0! = 1 end", "local a@0:0.0! a@0:0.0!() return a@0:0.0!, function() a@1:0.0!.b = 1 end, a@0:0.0!",
		"local a@0:0.0!, b@0:0.1 return function() return a@1:0.0! end, b@0:0.1", "local a@0:0.0, b@0:0.1! return a@0:0.0, function() return b@1:0.1! end", "local a@0:0.0 local a@0:0.1! return function() return a@1:0.1! end", "local a@0:0.0! local f@0:0.1 = function() return a@1:0.0! end local a@0:0.2 return a@0:0.2",
		"local a@0:0.0 return function(a@1:1.0) return a@1:1.0 end, function() local a@2:2.0 return a@2:2.0 end, {a = function() return b@3:g.a end}", "return function(a@1:1.0!) return function() return a@2:1.0! end end, function(a@3:3.0) return function() return b@4:g end, a@3:3.0 end",
		"for i@0:0.0! = 1, 2 do for j@0:0.1 = 1, 2 do f@0:g(function() return i@1:0.0! end, j@0:0.1) end end", "local f@0:0.0! = 1 local function g@0:0.1() return f@1:0.0! end", "local a@0:0.0! function f@0:g() function a@1:0.0!() end end", "local a@0:0.0! function f@0:g() for i@1:1.0 = a@1:0.0!, 2 do end end",
		"local a@0:0.0! function f@0:g() while a@1:0.0! do end end", "local a@0:0.0! function f@0:g() if 1 then elseif a@1:0.0! then end end", "local a@0:0.0! function f@0:g() local a@1:1.0 = a@1:0.0! end", "local a@0:0.0! function f@0:g() return {[a@1:0.0!] = 1} end",
		"local a@0:0.0 function a@0:0.0() end", "local a@0:0.0! function a@0:0.0!() a@1:0.0!() end", "return function() a@1:g() return function() a@2:g() end end, a@0:g",
	)
}
