package vm_test

import (
	"testing"

	"heirloom/api"
)

// The chapter's examples.
func TestP15Examples(t *testing.T) {
	checkRows(t,
		row{src: `emit(1 + 2, "x")`, lines: "3 x"},
		row{src: `return pcall(error, "a")`},
		row{src: `error({})`, failure: "table 4"},
	)
}

// The document's examples of the whole, but for the one of sizes.
func TestP15ExamplesOfTheWhole(t *testing.T) {
	checkRows(t,
		row{src: `local t = {} for i = 1, 3 do t[i] = i * i end emit(#t, t[3])`, lines: "3 9"},
		row{src: `local ok, e = pcall(error, "a") emit(ok, e)`, lines: "false a"},
		row{src: `local n = 0 local function f() n = n + 1 f() end local ok, e = pcall(f) emit(n, ok, e)`, lines: "59 false error 14"},
		row{src: `local g = create(function(x) local y = yield(x + 1) return y end) local ok, v = resume(g, 1) emit(v) ok, v = resume(g, 9) emit(v, status(g))`, lines: "2|9 dead"},
		row{src: `local w = setmeta({}, {__mode = "k"}) w[{}] = 1 for i = 1, 5 do collect() end emit(next(w))`, lines: "nil"},
		row{src: `setmeta({}, {__gc = function() emit("gone") end})`, lines: "gone"},
		row{src: `local a, b = "x" .. 1, "x1" emit(rawequal(a, b))`, lines: "true"},
		row{src: `emit(1 // 0)`, failure: "error 11"},
		row{src: `emit(nil + 1)`, failure: "error 10"},
	)
}

// The one of sizes: in 300 cells New finds no room, in 900 the program finds enough, whatever is collected.
func TestP15ExampleOfSizes(t *testing.T) {
	p := compiled(t, `local t = {} for i = 1, 3 do t[i] = i * i end emit(#t, t[3])`)
	checkRefused(t, p, 300, api.ErrFull)
	for _, points := range [][]api.Point{nil, many(api.PointMajor)[:50]} {
		o := played(t, p, 900, points...)
		if len(o.lines) != 1 || o.lines[0] != "3 9" || o.verdict != api.Done {
			t.Errorf("900 cells: %v", o)
		}
	}
}
