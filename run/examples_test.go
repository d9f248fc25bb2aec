package run_test

import (
	"fmt"
	"testing"

	"heirloom/api"
	"heirloom/run"
)

// The ten examples of the whole.
func TestP0_1Examples(t *testing.T) {
	const second = "local t = {} for i = 1, 3 do t[i] = i * i end emit(#t, t[3])"
	for _, r := range []struct{ src, told string }{
		{`emit(1 + 2, "x")`, "put \"3 x\"\ndone steps 5 made 4 urgent 0\n"},
		{second, "put \"3 9\"\ndone steps 34 made 5 urgent 0\n"},
		{`local ok, e = pcall(error, "a") emit(ok, e)`, "put \"false a\"\ndone steps 9 made 4 urgent 0\n"},
		{`error({})`, "error \"table 4\"\nfailed steps 3 made 5 urgent 0\n"},
		{`local n = 0 local function f() n = n + 1 f() end local ok, e = pcall(f) emit(n, ok, e)`, "put \"59 false error 14\"\ndone steps 369 made 8 urgent 0\n"},
		{`local g = create(function(x) local y = yield(x + 1) return y end) local ok, v = resume(g, 1) emit(v) ok, v = resume(g, 9) emit(v, status(g))`, "put \"2\"\nput \"9 dead\"\ndone steps 30 made 7 urgent 0\n"},
		{`local w = setmeta({}, {__mode = "k"}) w[{}] = 1 for i = 1, 5 do collect() end emit(next(w))`, "put \"nil\"\ndone steps 36 made 7 urgent 0\n"},
		{`setmeta({}, {__gc = function() emit("gone") end})`, "put \"gone\"\ndone steps 12 made 8 urgent 0\n"},
		{`local a, b = "x" .. 1, "x1" emit(rawequal(a, b))`, "put \"true\"\ndone steps 11 made 4 urgent 0\n"},
		{`emit(1 // 0)`, "error \"error 11\"\nfailed steps 4 made 4 urgent 0\n"},
		{`emit(nil + 1)`, "error \"error 10\"\nfailed steps 4 made 4 urgent 0\n"},
	} {
		check(t, r.src, run.Text(run.Play(api.Scene{Size: 6000, Steps: 6000, Source: r.src})), r.told)
		check(t, r.src, run.Do("size 6000\nsteps 6000\nsource\n"+r.src), r.told)
	}
	check(t, "in 300 cells", run.Do("size 300\nsteps 6000\nsource\n"+second), "refused 8 at 0\n")
	for size := 1; size <= 300; size++ {
		check(t, "in too few", run.Do(fmt.Sprintf("size %d\nsteps 6000\nsource\n%s", size, second)), "refused 8 at 0\n")
	}
	check(t, "in 900 cells", run.Do("size 900\nsteps 6000\nmajor x50\nsource\n"+second), "put \"3 9\"\ndone steps 34 made 5 urgent 0\n")
}
