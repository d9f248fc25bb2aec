package run_test

import (
	"math/rand"
	"testing"

	"heirloom/api"
	"heirloom/run"
	"heirloom/script"
)

// scenes are texts, with what comes of them: also how often there is no room, which hangs on each cell.
func scenes() [][2]string {
	return [][2]string{
		{"size 600\nsteps 20000\nsource\nfor i = 1, 500 do local t = {} end emit(\"end\")",
			"put \"end\"\ndone steps 1008 made 504 urgent 10\n"},
		{"size 600\nsteps 20000\nmajor x100\nsource\nfor i = 1, 500 do local t = {} end emit(\"end\")",
			"put \"end\"\ndone steps 1008 made 504 urgent 8\n"},
		{"size 600\nsteps 20000\nmode 1\nyoung x400\nsource\nfor i = 1, 500 do local t = {} end emit(\"end\")",
			"put \"end\"\ndone steps 1008 made 504 urgent 2\n"},
		{"size 600\nsteps 20000\nstep 2 x4000\nsource\nfor i = 1, 500 do local t = {} end emit(\"end\")",
			"put \"end\"\ndone steps 1008 made 504 urgent 10\n"},
		{"size 600\nsteps 20000\nsource\nlocal t = {} for i = 1, 500 do t[i] = {} emit(#t) end",
			"put \"1\"\nput \"2\"\nput \"3\"\nput \"4\"\nput \"5\"\nput \"6\"\nput \"7\"\nput \"8\"\nput \"9\"\nput \"10\"\nput \"11\"\nput \"12\"\nput \"13\"\nput \"14\"\nput \"15\"\nput \"16\"\nput \"17\"\nput \"18\"\nput \"19\"\nput \"20\"\nput \"21\"\nput \"22\"\nput \"23\"\nput \"24\"\nput \"25\"\nput \"26\"\nput \"27\"\nput \"28\"\nput \"29\"\nput \"30\"\nput \"31\"\nput \"32\"\nspent steps 297 made 38 urgent 1\n"},
		{"size 600\nsteps 20000\nstep 9 x40\nsource\nlocal t = {} for i = 1, 500 do t[i] = {} end",
			"spent steps 169 made 38 urgent 1\n"},
		{"size 540\nsteps 20000\ncompact x99\nsource\nlocal s = \"\" for i = 1, 40 do s = s .. \"abcdefgh\" end emit(#s)",
			"put \"320\"\ndone steps 210 made 4 urgent 4\n"},
		{"size 600\nsteps 20000\nsource\nlocal function f(n) local t = {n} if n > 0 then return f(n - 1) end return t end for i = 1, 9 do emit(f(i)[1]) end",
			"put \"0\"\nput \"0\"\nput \"0\"\nput \"0\"\nput \"0\"\nput \"0\"\nput \"0\"\nput \"0\"\nput \"0\"\ndone steps 756 made 61 urgent 1\n"},
		{"size 900\nsteps 20000\nnone x20\nmajor\nsource\nlocal function f(n) local t = {n} if n > 0 then return 1 + f(n - 1) end return 0 end for i = 1, 70, 6 do emit(pcall(f, i)) end",
			"put \"true\"\nput \"true\"\nput \"true\"\nput \"true\"\nput \"true\"\nput \"true\"\nspent steps 2141 made 144 urgent 15\n"},
		{"size 700\nsteps 3000\nmode 1\nyoung x7\nmode 0\nstep 3 x30\nsource\nlocal m = {__gc = function(o) emit(\"gone\", o[1]) end} for i = 1, 9 do setmeta({i}, m) end emit(\"end\")",
			"put \"gone 4\"\nput \"gone 3\"\nput \"gone 2\"\nput \"gone 1\"\nput \"end\"\nput \"gone 9\"\nput \"gone 8\"\nput \"gone 7\"\nput \"gone 6\"\nput \"gone 5\"\ndone steps 147 made 16 urgent 0\n"},
		{"size 700\nsteps 3000\nsource\nlocal m = {__gc = function(o) emit(\"gone\", o[1]) end} for i = 1, 30 do setmeta({i}, m) end emit(\"end\")",
			"put \"end\"\nput \"gone 30\"\nput \"gone 29\"\nput \"gone 28\"\nput \"gone 27\"\nput \"gone 26\"\nput \"gone 25\"\nput \"gone 24\"\nput \"gone 23\"\nput \"gone 22\"\nput \"gone 21\"\nput \"gone 20\"\nput \"gone 19\"\nput \"gone 18\"\nput \"gone 17\"\nput \"gone 16\"\nput \"gone 15\"\nput \"gone 14\"\nput \"gone 13\"\nput \"gone 12\"\nput \"gone 11\"\nput \"gone 10\"\nput \"gone 9\"\nput \"gone 8\"\nput \"gone 7\"\nput \"gone 6\"\nput \"gone 5\"\nput \"gone 4\"\nput \"gone 3\"\nput \"gone 2\"\nput \"gone 1\"\ndone steps 462 made 37 urgent 0\n"},
		{"size 760\nsteps 3000\nstep 4 x99\nsource\nlocal w, k = setmeta({}, {__mode = \"k\"}), {} for i = 1, 6 do w[{}] = i w[k] = i end collect() emit(w[k], next(w) == k, next(w, k))",
			"put \"6 true nil\"\ndone steps 83 made 13 urgent 0\n"},
		{"size 800\nsteps 5000\nmode 1\nyoung x50\nsource\nlocal l = nil for i = 1, 12 do l = create(function(x) local l = l for j = 1, 3 do x = yield(x .. i) end return l end) local ok, v = resume(l, i) emit(ok, v) end",
			"put \"true 11\"\nput \"true 22\"\nput \"true 33\"\nput \"true 44\"\nput \"true 55\"\nput \"true 66\"\nput \"true 77\"\nput \"true 88\"\nput \"true 99\"\nput \"true 1010\"\nput \"true 1111\"\nput \"true 1212\"\ndone steps 295 made 42 urgent 0\n"},
		{"size 620\nsteps 71\nmajor x3\nstep 5 x3\nsource\nlocal n = 0 while true do n = n + 1 local t = {n, {n}} emit(t, t[2]) end",
			"put \"table 4 table 5\"\nput \"table 6 table 7\"\nput \"table 8 table 9\"\nruns steps 71 made 10 urgent 0\n"},
	}
}

// P0.1: what comes of a scene is what the chapters say, to the last number.
func TestP0_1Scenes(t *testing.T) {
	for _, s := range scenes() {
		check(t, s[0], run.Do(s[0]), s[1])
	}
}

// P0.1: so it is of any scene: a twin tells it that says the chapters over objects of its own, in much room and in little.
func TestP0_1Told(t *testing.T) {
	t.Parallel()
	for _, s := range scenes() {
		x, _, _ := script.Parse(s[0])
		checkTrace(t, s[0], run.Play(x), told(x))
	}
	for seed := range 400 {
		x := anyScene(int64(seed))
		if got, want := run.Play(x), told(x); !same(got, want) {
			t.Fatalf("%d: %v\n%s, want\n%s", seed, x, shown(got), shown(want))
		}
	}
}

// P0.1: the same each time, whatever is played between, and however often.
func TestP0_1Again(t *testing.T) {
	t.Parallel()
	r := rand.New(rand.NewSource(1))
	var first []api.Trace
	for seed := range 60 {
		first = append(first, run.Play(anyScene(int64(seed))))
	}
	for _, seed := range r.Perm(len(first)) {
		for range 2 {
			checkTrace(t, "again", run.Play(anyScene(int64(seed))), first[seed])
		}
	}
}
