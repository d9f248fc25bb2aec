package vm_test

import (
	"fmt"
	"slices"
	"testing"

	"heirloom/api"
	"heirloom/code"
)

// ops are programs by hand, each with one instruction that is looked at, and how many ahead of it.
func ops() map[int]api.Proto {
	with := func(op, a, b, c int) api.Proto {
		return api.Proto{Regs: 9, Consts: []api.Const{letters("type"), number(whole(1))}, Kids: []int{1}, Code: []api.Ins{
			{Op: api.IConst, A: 1, B: 1}, {Op: api.IConst, A: 2, B: 1}, {Op: api.IConst, A: 3, B: 1}, {Op: op, A: a, B: b, C: c}, {Op: api.INil, A: 0}, end,
		}}
	}
	l := map[int]api.Proto{
		api.INil: with(api.INil, 0, 0, 0), api.IBool: with(api.IBool, 0, 1, 0), api.IConst: with(api.IConst, 0, 1, 0), api.IMove: with(api.IMove, 0, 1, 0),
		api.INewBox: with(api.INewBox, 0, 0, 0), api.IGetGlobal: with(api.IGetGlobal, 0, 0, 0), api.ISetGlobal: with(api.ISetGlobal, 0, 1, 0),
		api.IClosure: with(api.IClosure, 0, 0, 0), api.ITable: with(api.ITable, 0, 0, 0), api.IConcat: with(api.IConcat, 0, 1, 2),
		api.IEq: with(api.IEq, 0, 1, 2), api.ILt: with(api.ILt, 0, 1, 2), api.ILe: with(api.ILe, 0, 1, 2), api.INeg: with(api.INeg, 0, 1, 0), api.INot: with(api.INot, 0, 1, 0),
		api.IJump: with(api.IJump, 4, 0, 0), api.IJumpIf: with(api.IJumpIf, 0, 4, 0), api.IJumpNot: with(api.IJumpNot, 0, 4, 0),
		api.IForPrep: with(api.IForPrep, 1, 4, 0), api.IForLoop: with(api.IForLoop, 1, 4, 0),
	}
	for op := api.IAdd; op <= api.IMod; op++ {
		l[op] = with(op, 0, 1, 2)
	}
	// Some need another thing in a register than a number: it is put there ahead, without a point of its own.
	box := with(api.IGetGlobal, 0, 0, 0)
	box.Code[3] = api.Ins{Op: api.ICall, A: 0, B: 1, C: 1}
	box.Code[0] = api.Ins{Op: api.IGetGlobal, A: 0, B: 0}
	l[api.ICall] = box
	text := with(api.ILen, 0, 4, 0)
	text.Code[0] = api.Ins{Op: api.IConst, A: 4, B: 0}
	l[api.ILen] = text
	return l
}

// Behind six instructions the next point is done, behind no other.
func TestP15_2WherePointsAre(t *testing.T) {
	kid := api.Proto{Code: []api.Ins{end}}
	for op, f := range ops() {
		m := open(t, by(f, kid), 3000, of(api.PointMode, api.ModeGen))
		check(t, "Step", m.Step(3), 3)
		check(t, fmt.Sprint("mode ahead of ", op), m.View().Mode, api.ModeInc)
		check(t, "Step", m.Step(1), 1)
		want := api.ModeInc
		if slices.Contains([]int{api.ITable, api.IClosure, api.INewBox, api.IConcat, api.ICall}, op) {
			want = api.ModeGen
		}
		check(t, fmt.Sprint("mode behind ", op), m.View().Mode, want)
		check(t, "verdict", m.Verdict(), api.Runs)
	}
}

// A point is done behind the first instruction that asks for one, whichever function runs then: in a function that was called it comes ahead of its first instruction.
func TestP15_2PointInTheCalled(t *testing.T) {
	m := open(t, compiled(t, `local f = function() emit(1) end f()`), 3000, of(api.PointNone), of(api.PointMode, 1))
	for m.View().Mode == api.ModeInc && m.Step(1) == 1 {
	}
	check(t, "lines", len(m.Lines()), 0)
	check(t, "verdict", m.Verdict(), api.Runs)
}

// Where no function runs any more nothing is done, and nothing where something was thrown.
func TestP15_2NoPoint(t *testing.T) {
	for src, mode := range map[string]int{
		`return emit(1)`:                     api.ModeInc,
		`return pcall(error)`:                api.ModeInc,
		`pcall(error)`:                       api.ModeInc,
		`pcall(pcall, 5)`:                    api.ModeInc,
		`local t = nil t()`:                  api.ModeInc,
		`return error(1)`:                    api.ModeInc,
		`local a, b = "x", nil a = a .. b`:   api.ModeInc,
		`emit(1)`:                            api.ModeGen,
		`pcall(type)`:                        api.ModeGen,
		`return (function() return 1 end)()`: api.ModeGen,
	} {
		m := open(t, compiled(t, src), 3000, of(api.PointMode, api.ModeGen))
		m.Step(manySteps)
		check(t, src, m.View().Mode, mode)
	}
}

// Each kind of point does what it says, once.
func TestP15_2Kinds(t *testing.T) {
	src := `local t = {{}} local x = {} t[1] = nil x = nil local y = {}`
	calls := func(points ...api.Point) api.View {
		m := open(t, compiled(t, src), 3000, points...)
		m.Step(4)
		return m.View()
	}
	before := calls()
	for _, p := range []api.Point{of(api.PointNone, 5), of(-1, 5), of(6, 1), of(1<<40, 1), of(api.PointStep, 0), of(api.PointStep, -3), of(api.PointYoung, 1), of(api.PointMode, 0), of(api.PointMode, 2), of(api.PointMode, -1)} {
		if v := calls(p); v.Mode != before.Mode || v.Phase != before.Phase || len(v.Seen) != len(before.Seen) || len(v.Grey) != 0 {
			t.Errorf("the point %v: %v", p, v)
		}
	}
	check(t, "phase of a step", calls(of(api.PointStep, 1)).Phase, api.PhaseMark)
	check(t, "phase of many steps", calls(of(api.PointStep, 1<<40)).Phase, api.PhasePause)
	check(t, "white of many steps", calls(of(api.PointStep, 1<<40)).White, api.White1)
	check(t, "white of a major", calls(of(api.PointMajor)).White, api.White1)
	check(t, "phase of two steps", len(calls(of(api.PointStep, 1), of(api.PointStep, 1)).Grey) > 0, true)
	gen := calls(of(api.PointMode, 1))
	check(t, "mode", gen.Mode, api.ModeGen)
	check(t, "what was there is old", slices.ContainsFunc(gen.Seen, func(s api.Seen) bool { return s.Age == api.Old }), true)
}

// One that compacts moves all together.
func TestP15_2Compact(t *testing.T) {
	src := `local a = {} local b = {1, 2, 3, 4} local c = {1, 2} local d = {1, 2, 3} a = nil local e = {} emit(1)`
	spread, tight := open(t, compiled(t, src), 3000, many(api.PointMajor)...), open(t, compiled(t, src), 3000, many(api.PointCompact)...)
	spread.Step(manySteps)
	for tight.Verdict() == api.Runs {
		tight.Step(1)
		if len(tight.Lines()) == 1 {
			break
		}
	}
	live, top, _ := spread.Free()
	check(t, "spread", live < top, true)
	live, top, gap := tight.Free()
	check(t, "top", top, live)
	check(t, "gap", gap, 3000-live)
}

// None left: it is as without points.
func TestP15_2PointsLeft(t *testing.T) {
	p := compiled(t, `for i = 1, 20 do local t = {} end emit(1)`)
	m := open(t, p, 3000, of(api.PointStep, 1), of(api.PointMode, 1))
	m.Step(manySteps)
	check(t, "verdict", m.Verdict(), api.Done)
	check(t, "mode", m.View().Mode, api.ModeGen)
	check(t, "right", code.Right(p), true)
}
