package run_test

import (
	"math/rand"
	"testing"

	"heirloom/api"
	"heirloom/code"
	"heirloom/parse"
	"heirloom/run"
)

// checkPrinted: a source does the same once it is printed from its tree, cell by cell; it tells whether it can be.
func checkPrinted(t *testing.T, x api.Scene) bool {
	t.Helper()
	n, _, _ := parse.Parse(x.Source)
	printed := x
	printed.Source = parse.Print(n)
	want := run.Play(x)
	if len(printed.Source) > api.MaxSource {
		return false
	}
	if _, at, e := code.Compile(printed.Source); e == api.ErrDeep { // parentheses that it is printed with
		return false
	} else if e != api.OK {
		t.Fatalf("%s\n%v at %d", printed.Source, e, at)
	}
	if got := run.Play(printed); !same(got, want) {
		t.Fatalf("%s\n%s\n%s, want\n%s", x.Source, printed.Source, shown(got), shown(want))
	}
	return true
}

// P0.8: a source that is printed from its tree does the same: in scenes of all kinds.
func TestP0_8Printed(t *testing.T) {
	t.Parallel()
	did := 0
	for seed := range 150 {
		if checkPrinted(t, anyScene(int64(seed))) {
			did++
		}
	}
	check(t, "most can be printed", did > 120, true)
	r := rand.New(rand.NewSource(8))
	for range 20 {
		check(t, "the other sources can", checkPrinted(t, api.Scene{Size: 900, Steps: 3000, Points: anyPoints(r), Source: busy}), true)
	}
}

// P0.8: also with remarks, parentheses, signs that bind unlike, numbers and texts of all forms.
func TestP0_8Forms(t *testing.T) {
	for _, src := range []string{
		"", ";;;", "-- nothing", "return", "return 1, 2;", "do end do do end end",
		"emit(1 + 2 * 3 - 4 // 5 % 6 / 7, (1 + 2) * (3 - 4), 1 .. 2 .. 3, (1 .. 2) .. 3, - - 1, not not nil, #\"a\" + 1, -1 + - 2)",
		"emit(1 < 2 == true, 1 or 2 and 3, (1 or 2) and 3, not 1 == 2, not (1 == 2), nil == false or 7, 2 - 1 - 1, 2 - (1 - 1), 8 / 4 / 2, \"a\" .. \"b\" == \"ab\")",
		"emit(0x, 1)", "emit(1.5, 0.1, 0f7ff0000000000000, 9223372036854775807, -9223372036854775807 - 1, 1.0, 0.0)",
		`emit("\x00\x0a\x22\x5c\xff", "", " ", "end", 'x')`, `emit("\x00\x0a\x22\x5c\xff", "", " ", "end")`,
		"local t = {1, 2; 3}", "local t = {1, x = 2, [3] = {4, {}}, [\"y\"] = 5, function() end,} emit(#t, t.x, t[3][1], t[\"y\"], type(t[3]))",
		"local a = {b = {c = function(x) return {x} end}} emit(a.b.c(1)[1], a[\"b\"][\"c\"](2)[1], (a.b).c(3)[1], ({5})[1], (\"x\")) local f = (function(x) return x end)(4) emit(f)",
		"function f(a, b) return a, b end local function g(...) end", "function f(a, b) return b, a end local x, y = f(1, 2) emit(x, y, (f(3, 4))) emit(f(5, 6)) return f(7, 8)",
		"local a, b, c a, b = 1 c = a, b emit(a, b, c) x, y = y, x; emit(x) ; ; -- end",
		"for i = 1, 3 do if i == 1 then emit(1) elseif i == 2 then emit(2) else emit(3) break end end while true do break end",
		"local function f(n) if n < 1 then return end emit(n) return f(n - 1) end f(3) error({})",
		"setmeta({}, {__gc = function(o) emit(type(o)) end}) local w = setmeta({}, {__mode = \"kv\"}) w[{}] = 1 collect() emit(next(w))",
	} {
		if _, _, e := parse.Parse(src); e == api.OK {
			check(t, src, checkPrinted(t, api.Scene{Size: 2000, Steps: 2000, Source: src}), true)
			check(t, src, checkPrinted(t, api.Scene{Size: 500, Steps: 50, Points: many(api.PointMajor), Source: src}), true)
		}
	}
}
