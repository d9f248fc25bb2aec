package run_test

import (
	"math/rand"
	"slices"
	"strings"
	"testing"

	"heirloom/api"
	"heirloom/code"
	"heirloom/run"
)

// P17.4: plain sources: also such as have the words as a variable's name, or in a longer text, or aside.
func TestP17_4Plain(t *testing.T) {
	for _, s := range []string{
		"", "emit(1)", "return {}", "-- setmeta collect", "emit(1) -- collect()",
		`emit("collects")`, `emit("Collect", "setmeta ", " collect", "setmet", "setmetaa", "")`, `emit("collect\x00")`,
		"local collect = 1 emit(collect)", "local setmeta = emit setmeta({}, {})", "local function collect() return collect end collect()",
		"for collect = 1, 3 do emit(collect) end", "local f = function(setmeta) return setmeta end emit(f)",
		"collects = 1 setmeta1 = 2 Collect = 3 _setmeta = 4", "emit(col)", `emit("col" .. "lect", "set" .. "meta")`,
		"t = {} t.__gc = getmeta t.__mode = 1", "getmeta(1)", `local collect = {} local x = collect[1]`,
	} {
		check(t, s, run.Plain(s), true)
	}
}

// P17.4: sources that are not: wherever the words are a constant, and if the source does not compile.
func TestP17_4NotPlain(t *testing.T) {
	for _, s := range []string{
		"collect()", "setmeta({}, nil)", "emit(collect)", "collect = 1", "setmeta = emit", `emit("collect")`, `emit("setmeta")`,
		`emit("a", "b", "setmeta")`, "local x = t.collect", "t.setmeta = 1", "t = {collect = 1}", `t = {["setmeta"] = 1}`, "t = {1, 2, collect}",
		"local f = function() return function() collect() end end", "if false then setmeta() end", "return 1 + collect",
		"do local collect = 1 end collect()", "local collect = collect", "emit(1) return setmeta", "local f = function() end local g = function() local x = \"collect\" end",
		"function collect() end", "collect(", "emit(1", "$", "x", "1x", "\"collects", "break", "emit(1) break", "a = 99999999999999999999",
		strings.Repeat(" ", api.MaxSource+1), "f(" + strings.Repeat("1,", api.MaxRegs) + "1)", strings.Repeat("local a ", api.MaxLocals+1),
		strings.Repeat("do ", api.MaxNest) + strings.Repeat("end ", api.MaxNest), "\x00", "emit(\"\\x41\")",
	} {
		check(t, s, run.Plain(s), false)
	}
	check(t, "the longest source", run.Plain(strings.Repeat(" ", api.MaxSource)), true)
}

// P17.4: of any source it hangs on its constants.
func TestP17_4Constants(t *testing.T) {
	t.Parallel()
	r := rand.New(rand.NewSource(174))
	plain := 0
	for range 600 {
		src := anySource(r)
		if r.Intn(3) == 0 { // a part of a source compiles now and then
			src = src[:r.Intn(len(src))]
		}
		p, _, e := code.Compile(src)
		is := e == api.OK
		for _, f := range p.Protos {
			for _, c := range f.Consts {
				is = is && !slices.Contains([]string{"setmeta", "collect"}, c.S)
			}
		}
		check(t, src, run.Plain(src), is)
		if is {
			plain++
		}
	}
	check(t, "some are plain, some are not", plain > 100 && plain < 500, true)
}
