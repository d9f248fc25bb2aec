package run_test

import (
	"fmt"
	"slices"
	"strings"
	"testing"

	"heirloom/api"
	"heirloom/code"
	"heirloom/run"
	"heirloom/script"
	"heirloom/vm"
)

// P17.1: a scene that may not be, for each reason, and for several: the first one is told, and nothing else.
func TestP17_1MayNotBe(t *testing.T) {
	long := strings.Repeat(" ", api.MaxSource+1)
	tooMany := slices.Repeat([]api.Point{{}}, api.MaxPoints+1)
	wrong := []api.Point{{Kind: api.PointMode, N: 2}}
	for _, r := range []struct {
		x api.Scene
		e api.Errno
	}{
		{api.Scene{}, api.ErrRange},
		{api.Scene{Size: 0, Source: "$"}, api.ErrRange},
		{api.Scene{Size: -1}, api.ErrRange},
		{api.Scene{Size: minInt}, api.ErrRange},
		{api.Scene{Size: api.MaxCells + 1}, api.ErrRange},
		{api.Scene{Size: maxInt}, api.ErrRange},
		{api.Scene{Size: 2000, Steps: -1}, api.ErrRange},
		{api.Scene{Size: 2000, Steps: api.MaxSteps + 1}, api.ErrRange},
		{api.Scene{Size: 2000, Steps: maxInt}, api.ErrRange},
		{api.Scene{Size: 2000, Steps: minInt, Points: tooMany, Source: long}, api.ErrRange},
		{api.Scene{Size: 2000, Points: tooMany}, api.ErrMany},
		{api.Scene{Size: 2000, Points: append(tooMany, wrong...), Source: long}, api.ErrMany},
		{api.Scene{Size: 2000, Points: wrong}, api.ErrForm},
		{api.Scene{Size: 2000, Points: wrong, Source: long}, api.ErrForm},
		{api.Scene{Size: 2000, Points: []api.Point{of(-1)}}, api.ErrForm},
		{api.Scene{Size: 2000, Points: []api.Point{of(6)}}, api.ErrForm},
		{api.Scene{Size: 2000, Points: []api.Point{of(api.PointMajor), of(api.PointYoung, 1)}}, api.ErrForm},
		{api.Scene{Size: 2000, Points: []api.Point{of(api.PointStep, -1)}, Source: "$"}, api.ErrForm},
		{api.Scene{Size: 2000, Points: []api.Point{of(api.PointStep, 1000000000)}}, api.ErrForm},
		{api.Scene{Size: 2000, Source: long}, api.ErrLong},
		{api.Scene{Size: 1, Source: long}, api.ErrLong},
	} {
		checkTrace(t, fmt.Sprintf("Size %d, Steps %d, %d points", r.x.Size, r.x.Steps, len(r.x.Points)), run.Play(r.x), api.Trace{E: r.e})
	}
}

// P17.1: the greatest scene that may be, and the least steps.
func TestP17_1MayBe(t *testing.T) {
	src := "emit(1)" + strings.Repeat(" ", api.MaxSource-7)
	want := api.Trace{Verdict: api.Done, Lines: []string{"1"}, Steps: 4, Made: 4}
	checkTrace(t, "greatest", run.Play(roomy(src, many(api.PointStep, 999999999)...)), want)
	checkTrace(t, "no steps", run.Play(api.Scene{Size: api.MaxCells}), api.Trace{Made: 4})
	checkTrace(t, "an empty source", run.Play(api.Scene{Size: api.MaxCells, Steps: 1}), api.Trace{Verdict: api.Done, Steps: 1, Made: 4})
}

// P17.1: a source that does not compile, for each error, with its place; how much room there is, or how many steps, is not asked then.
func TestP17_1Compile(t *testing.T) {
	locals := strings.Repeat("local a ", api.MaxLocals) + "local b"
	deep := "a = " + strings.Repeat("(", api.MaxNest) + "1" + strings.Repeat(")", api.MaxNest)
	registers := "f(" + strings.Repeat("1,", api.MaxRegs) + "1)"
	for _, r := range []struct {
		src string
		at  int
		e   api.Errno
	}{
		{"emit(1) $", 8, api.ErrByte},
		{"emit(1) \xff", 8, api.ErrByte},
		{`a = "b`, 4, api.ErrQuote},
		{`a = "\x62"`, 4, api.ErrQuote},
		{"a = 1x", 4, api.ErrForm},
		{"a = 9223372036854775808", 4, api.ErrRange},
		{"x", 1, api.ErrForm},
		{"f() = 1", 4, api.ErrForm},
		{"return 1 x", 9, api.ErrForm},
		{"while true do", 13, api.ErrForm},
		{deep, 4 + api.MaxNest - 1, api.ErrDeep},
		{locals, len(locals) - 1, api.ErrMany},
		{"f() break", 4, api.ErrState},
		{"while true do local f = function() break end end", 35, api.ErrState},
		{registers, 0, api.ErrMany},
		{"a = 1 " + registers, 0, api.ErrMany},
	} {
		for _, x := range []api.Scene{roomy(r.src), {Size: 1, Source: r.src}, roomy(r.src, many(api.PointMajor)...)} {
			checkTrace(t, r.src, run.Play(x), api.Trace{E: r.e, At: r.at})
		}
	}
}

// P17.1: in too little room nothing is run; from some size on it is, and then less may be wanting than at the end.
func TestP17_1NoRoom(t *testing.T) {
	for _, src := range []string{"", "emit(1)", `local t = {"a", "b", function(x) return x end} emit(#t)`} {
		p, _, _ := code.Compile(src)
		refused := 0
		for size := 1; size < 1000; size++ {
			_, e := vm.New(p, size)
			x := run.Play(api.Scene{Size: size, Steps: 100, Points: many(api.PointMajor)[:7], Source: src})
			if e != api.OK {
				checkTrace(t, src, x, api.Trace{E: api.ErrFull})
				check(t, src+": refused in less room", refused, size-1)
				refused = size
			} else if x.E != api.OK || x.Made == 0 {
				t.Errorf("%s in %d cells: %s", src, size, shown(x))
			}
		}
		check(t, src+": some sizes are enough, some are not", refused > 200 && refused < 900, true)
	}
}

// P17.1: no steps, one, just as many as the source takes, one less, one more.
func TestP17_1Steps(t *testing.T) {
	const src = `emit("a") local t = {} emit(t) error("b")`
	for _, r := range []struct {
		steps int
		want  api.Trace
	}{
		{0, api.Trace{Made: 4}},
		{1, api.Trace{Steps: 1, Made: 4}},
		{2, api.Trace{Steps: 2, Made: 4}},
		{3, api.Trace{Steps: 3, Made: 4, Lines: []string{"a"}}},
		{4, api.Trace{Steps: 4, Made: 5, Lines: []string{"a"}}},
		{6, api.Trace{Steps: 6, Made: 5, Lines: []string{"a"}}},
		{7, api.Trace{Steps: 7, Made: 5, Lines: []string{"a", "table 4"}}},
		{9, api.Trace{Steps: 9, Made: 5, Lines: []string{"a", "table 4"}}},
		{10, api.Trace{Steps: 10, Made: 5, Lines: []string{"a", "table 4"}, Verdict: api.Failed, Error: "b"}},
		{11, api.Trace{Steps: 10, Made: 5, Lines: []string{"a", "table 4"}, Verdict: api.Failed, Error: "b"}},
		{api.MaxSteps, api.Trace{Steps: 10, Made: 5, Lines: []string{"a", "table 4"}, Verdict: api.Failed, Error: "b"}},
	} {
		checkTrace(t, fmt.Sprint(r.steps, " steps"), run.Play(api.Scene{Size: 2000, Steps: r.steps, Source: src}), r.want)
	}
	checkTrace(t, "without end", run.Play(roomy("while true do end")), api.Trace{Steps: api.MaxSteps, Made: 4})
}

// P17.1: an error at the top with a text of every byte; lines of every byte.
func TestP17_1EveryByte(t *testing.T) {
	var all, quoted strings.Builder
	for c := range 256 {
		all.WriteByte(byte(c))
		if c >= 0x20 && c <= 0x7e && c != '"' && c != '\\' {
			quoted.WriteByte(byte(c))
		} else {
			fmt.Fprintf(&quoted, `\x%02x`, c)
		}
	}
	x := run.Play(roomy(`emit() emit("") local s = "` + quoted.String() + `" emit(s, s) error(s)`))
	checkTrace(t, "every byte", x, api.Trace{Verdict: api.Failed, Lines: []string{"", "", all.String() + " " + all.String()}, Error: all.String(), Steps: 13, Made: 4})
}

// P17.1: the machine's verdicts, and how many objects were made, and how often there was no room: not how many were marked.
func TestP17_1Counts(t *testing.T) {
	const marks = `local m = {__gc = function() end} for i = 1, 9 do setmeta({}, m) end`
	x := run.Play(roomy(marks))
	check(t, "verdict", x.Verdict, api.Done)
	check(t, "made", x.Made, 5+2+9)
	check(t, "urgent", x.Urgent, 0)
	const much = `local t = {} for i = 1, 1000 do t[i] = {} emit(i) end`
	x = run.Play(api.Scene{Size: 2000, Steps: 20000, Source: much})
	check(t, "verdict", x.Verdict, api.Spent)
	check(t, "each object but the last one is told", x.Made == 5+len(x.Lines) || x.Made == 6+len(x.Lines), true)
	check(t, "some emergencies", x.Urgent > 0 && x.Urgent < 20, true)
	check(t, "no error", x.Error, "")
}

// P17.1: it is what the machine does that is made of the source, with the scene's size, points and steps.
func TestP17_1Machine(t *testing.T) {
	t.Parallel()
	for seed := range 300 {
		x := anyScene(int64(seed))
		p, at, e := code.Compile(x.Source)
		if _, wrong := script.Print(x); wrong != api.OK || e != api.OK {
			t.Fatalf("%v, %v at %d: %s", wrong, e, at, x.Source)
		}
		m, e := vm.New(p, x.Size, x.Points...)
		want := api.Trace{E: e}
		if e == api.OK {
			want.Steps = m.Step(x.Steps)
			want.Verdict, want.Lines, want.Error = m.Verdict(), m.Lines(), m.Error()
			want.Made, _, want.Urgent = m.Counts()
		}
		points := slices.Clone(x.Points)
		checkTrace(t, x.Source, run.Play(x), want)
		check(t, "the scene's points are as they were", slices.Equal(points, x.Points), true)
	}
}
