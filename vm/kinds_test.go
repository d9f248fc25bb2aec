package vm_test

import (
	"fmt"
	"slices"
	"testing"

	"heirloom/api"
	"heirloom/num"
)

// A sample puts a value of a kind into the register r: constants 0 to 5 and the kid 0 are those of hand.
type sample struct {
	kind int
	code func(r int) []api.Ins
}

// hand is a function by hand that has what samples use.
func hand(code ...api.Ins) api.Proto {
	return api.Proto{Regs: 12, Kids: []int{2}, Code: append(code, end), Consts: []api.Const{
		number(num.Int(3)), number(num.Float(1.5)), letters("ab"), letters("rawequal"), letters("create"), letters("emit"),
	}}
}

// idle is a function that is a sample.
var idle = api.Proto{Params: 2, Regs: 2, Code: []api.Ins{end}}

func samples() []sample {
	one := func(op, b int) func(r int) []api.Ins {
		return func(r int) []api.Ins { return []api.Ins{{Op: op, A: r, B: b}} }
	}
	return []sample{
		{api.TNil, one(api.INil, 0)},
		{api.TBool, one(api.IBool, 0)},
		{api.TInt, one(api.IConst, 0)},
		{api.TFloat, one(api.IConst, 1)},
		{api.TStr, one(api.IConst, 2)},
		{api.TTable, one(api.ITable, 0)},
		{api.TFunc, one(api.IClosure, 0)},
		{api.TBox, one(api.INewBox, 0)},
		{api.TNative, one(api.IGetGlobal, 3)},
		{api.TThread, func(r int) []api.Ins {
			return []api.Ins{{Op: api.IGetGlobal, A: r, B: 4}, {Op: api.IClosure, A: r + 1, B: 0}, {Op: api.ICall, A: r, B: 1, C: 1}}
		}},
	}
}

func isNumber(s sample) bool { return s.kind == api.TInt || s.kind == api.TFloat }

// wrong is whether an instruction answers ErrType of values of two kinds.
func wrong(op int, a, b sample) bool {
	numbers := isNumber(a) && isNumber(b)
	strings := a.kind == api.TStr && b.kind == api.TStr
	switch op {
	case api.IConcat:
		return !(isNumber(a) || a.kind == api.TStr) || !(isNumber(b) || b.kind == api.TStr)
	case api.IEq:
		return false
	case api.ILt, api.ILe:
		return !numbers && !strings
	case api.IIndex:
		return a.kind != api.TTable
	case api.INeg:
		return !isNumber(a)
	case api.ILen:
		return a.kind != api.TStr && a.kind != api.TTable
	case api.INot, api.IMove:
		return false
	case api.IGetBox:
		return a.kind != api.TBox
	}
	return !numbers
}

// Instructions over values of every kind: ErrType where the chapter says so, and nowhere else.
func TestP15_2EveryKind(t *testing.T) {
	t.Parallel()
	two := []int{api.IAdd, api.ISub, api.IMul, api.IDiv, api.IIDiv, api.IMod, api.IConcat, api.IEq, api.ILt, api.ILe, api.IIndex, api.INeg, api.ILen, api.INot, api.IMove, api.IGetBox}
	for _, op := range two {
		for _, a := range samples() {
			for _, b := range samples() {
				c := 5
				if slices.Contains([]int{api.INeg, api.ILen, api.INot, api.IMove, api.IGetBox}, op) {
					c = 0
				}
				code := slices.Concat(a.code(3), b.code(5), []api.Ins{{Op: op, A: 0, B: 3, C: c}})
				o := playedByHand(t, code...)
				want := outcome{verdict: api.Done, steps: len(code) + 1}
				switch {
				case wrong(op, a, b):
					want = outcome{verdict: api.Failed, failure: "error 10", steps: len(code)}
				case (op == api.IIDiv || op == api.IMod) && (a.kind == api.TFloat || b.kind == api.TFloat):
					want = outcome{verdict: api.Failed, failure: "error 12", steps: len(code)}
				}
				if !same(o, want) {
					t.Errorf("the operation %d of kinds %d, %d: %v, want %v", op, a.kind, b.kind, o, want)
				}
			}
		}
	}
}

func playedByHand(t *testing.T, code ...api.Ins) outcome {
	t.Helper()
	return played(t, by(hand(code...), idle, idle), 3000)
}

// SetIndex, SetBox, calls and loops over values of every kind.
func TestP15_2EveryKindPut(t *testing.T) {
	t.Parallel()
	for _, a := range samples() {
		for _, b := range samples() {
			ahead := slices.Concat(a.code(3), b.code(5))
			for name, c := range map[string]struct {
				ins   api.Ins
				wrong string
			}{
				"SetIndex": {api.Ins{Op: api.ISetIndex, A: 3, B: 5, C: 3}, pick(a.kind != api.TTable, "error 10", pick(b.kind == api.TNil, "error 13", ""))},
				"SetBox":   {api.Ins{Op: api.ISetBox, A: 3, B: 5}, pick(a.kind != api.TBox, "error 10", "")},
				"Call":     {api.Ins{Op: api.ICall, A: 3, B: 2, C: 1}, pick(a.kind != api.TFunc && a.kind != api.TNative, "error 10", "")},
				"TailCall": {api.Ins{Op: api.ITailCall, A: 3, B: 2}, pick(a.kind != api.TFunc && a.kind != api.TNative, "error 10", "")},
				"JumpIf":   {api.Ins{Op: api.IJumpIf, A: 3, B: 0}, ""},
			} {
				if name == "JumpIf" {
					c.ins.B = len(ahead) + 1
				}
				o := playedByHand(t, slices.Concat(ahead, []api.Ins{c.ins})...)
				if o.failure != c.wrong || (o.verdict == api.Failed) != (c.wrong != "") {
					t.Errorf("%s of kinds %d, %d: %v, want %q", name, a.kind, b.kind, o, c.wrong)
				}
			}
		}
	}
}

func pick[T any](is bool, a, b T) T {
	if is {
		return a
	}
	return b
}

// The three registers of a loop, of every kind: ForPrep looks at all of them; ForLoop adds the first and the third, and what is no number is no bound up to which it goes on.
func TestP15_2EveryKindOfLoop(t *testing.T) {
	for at := range 3 {
		for _, a := range samples() {
			var ahead []api.Ins
			for i := range 3 {
				if i != at {
					ahead = append(ahead, api.Ins{Op: api.IConst, A: i, B: 0})
				}
			}
			// What a sample needs beside its register is free here.
			ahead = append(ahead, a.code(8)...)
			ahead = append(ahead, api.Ins{Op: api.IMove, A: at, B: 8})
			n := len(ahead)
			want := pick(isNumber(a), "", "error 10")
			o := playedByHand(t, append(slices.Clone(ahead), api.Ins{Op: api.IForPrep, A: 0, B: n + 1})...)
			check(t, fmt.Sprint("ForPrep, register ", at, ", kind ", a.kind), o.failure, want)
			if at == 1 {
				want = ""
			}
			o = playedByHand(t, append(slices.Clone(ahead), api.Ins{Op: api.IForLoop, A: 0, B: n + 1})...)
			check(t, fmt.Sprint("ForLoop, register ", at, ", kind ", a.kind), o.failure, want)
			check(t, "steps", o.steps, pick(want == "", n+2, n+1))
		}
	}
}

// A closure takes boxes alone: what lies where its ups tell may be no box.
func TestP15_2ClosureOfNoBox(t *testing.T) {
	for _, a := range samples() {
		f := hand(append(a.code(3), api.Ins{Op: api.IClosure, A: 0, B: 1})...)
		f.Kids = []int{2, 3}
		o := played(t, by(f, idle, idle, api.Proto{Code: []api.Ins{end}, Ups: []api.Up{{Local: true, Index: 3}}}), 3000)
		check(t, fmt.Sprint("kind ", a.kind), o.failure, pick(a.kind == api.TBox, "", "error 10"))
	}
}

// A loop by hand without a ForPrep: a step of 0 has no side, so it ends.
func TestP15_2ForLoopAlone(t *testing.T) {
	for _, c := range []struct {
		from, bound, step api.Value
		rounds            int
	}{
		{num.Int(1), num.Int(3), num.Int(1), 2},
		{num.Int(1), num.Int(3), num.Int(0), 0},
		{num.Int(1), num.Int(3), num.Float(0), 0},
		{num.Int(3), num.Int(1), num.Int(-1), 2},
		{num.Int(3), num.Int(1), num.Int(1), 0},
		{num.Int(1<<63 - 1), num.Int(1<<63 - 1), num.Int(1), 0},
		{num.Int(-1 << 63), num.Int(-1 << 63), num.Int(-1), 0},
		{num.Int(1<<63 - 2), num.Int(1<<63 - 1), num.Int(1), 1},
	} {
		f := api.Proto{Regs: 7, Consts: []api.Const{number(c.from), number(c.bound), number(c.step), letters("emit")}, Code: []api.Ins{
			{Op: api.IConst, A: 0, B: 0}, {Op: api.IConst, A: 1, B: 1}, {Op: api.IConst, A: 2, B: 2}, {Op: api.IJump, A: 7},
			{Op: api.IGetGlobal, A: 4, B: 3}, {Op: api.IMove, A: 5, B: 3}, {Op: api.ICall, A: 4, B: 1, C: 0},
			{Op: api.IForLoop, A: 0, B: 4}, end,
		}}
		o := played(t, by(f), 3000)
		check(t, fmt.Sprint(c), len(o.lines), c.rounds)
		check(t, fmt.Sprint(c), o.verdict, api.Done)
	}
}

// Jumps tell the number of an instruction: what is true, and what is not.
func TestP15_2Jumps(t *testing.T) {
	for _, a := range samples() {
		truth := a.kind != api.TNil && a.kind != api.TBool
		for op, jumps := range map[int]bool{api.IJump: true, api.IJumpIf: truth, api.IJumpNot: !truth} {
			code := a.code(3)
			n := len(code)
			j := api.Ins{Op: op, A: 3, B: n + 4}
			if op == api.IJump {
				j = api.Ins{Op: op, A: n + 4}
			}
			o := playedByHand(t, append(code, j, api.Ins{Op: api.IGetGlobal, A: 0, B: 5}, api.Ins{Op: api.IConst, A: 1, B: 2}, api.Ins{Op: api.ICall, A: 0, B: 1})...)
			check(t, fmt.Sprint("the jump ", op, " of kind ", a.kind), len(o.lines), pick(jumps, 0, 1))
		}
	}
}

// Boxes and ups by hand: of the function around, of that one's own.
func TestP15_2Boxes(t *testing.T) {
	inner := api.Proto{Regs: 3, Ups: []api.Up{{Index: 1}, {Index: 0}}, Consts: []api.Const{letters("x")}, Code: []api.Ins{
		{Op: api.IGetUp, A: 0, B: 0}, {Op: api.IGetUp, A: 1, B: 1}, {Op: api.IConst, A: 2, B: 0}, {Op: api.ISetUp, A: 0, B: 2}, {Op: api.IReturn, A: 0, B: 2},
	}}
	outer := api.Proto{Regs: 2, Kids: []int{2}, Ups: []api.Up{{Local: true, Index: 0}, {Local: true, Index: 1}}, Code: []api.Ins{
		{Op: api.IClosure, A: 0, B: 0}, {Op: api.ITailCall, A: 0, B: 0}, end,
	}}
	first := api.Proto{Regs: 8, Kids: []int{1}, Consts: []api.Const{letters("emit"), number(num.Int(1)), number(num.Int(2))}, Code: []api.Ins{
		{Op: api.IConst, A: 0, B: 1}, {Op: api.INewBox, A: 0}, {Op: api.IConst, A: 1, B: 2}, {Op: api.INewBox, A: 1},
		{Op: api.IGetGlobal, A: 2, B: 0}, {Op: api.IClosure, A: 3, B: 0}, {Op: api.ICall, A: 3, B: 0, C: 2},
		{Op: api.IGetBox, A: 5, B: 0}, {Op: api.IGetBox, A: 6, B: 1}, {Op: api.ICall, A: 2, B: 4, C: 0}, end,
	}}
	o := played(t, by(first, outer, inner), 3000)
	if len(o.lines) != 1 || o.lines[0] != "2 1 1 x" {
		t.Errorf("%v", o)
	}
}
