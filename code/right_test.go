package code_test

import (
	"math"
	"reflect"
	"slices"
	"testing"

	"heirloom/api"
	"heirloom/code"
	"heirloom/num"
)

// The sizes of the function in which instructions are tried, all of them different.
const (
	hasRegs   = 10
	hasConsts = 5
	hasUps    = 3
	hasKids   = 2
	hasCode   = 7
)

func ret() api.Ins { return api.Ins{Op: api.IReturn} }

// family is a right program of four functions: the source; its kid, in which the instruction stands; two kids of that one.
func family(i api.Ins) api.Program {
	text := api.Value{T: api.TStr}
	return api.Program{Protos: []api.Proto{
		{Regs: 4, Code: []api.Ins{ret()}, Kids: []int{1}},
		{
			Params: 2, Regs: hasRegs, Code: []api.Ins{{Op: api.INil}, i, {Op: api.INil}, ret(), {Op: api.IJump}, {Op: api.INil, A: 9}, ret()},
			Consts: []api.Const{{V: num.Int(1)}, {V: text, S: "a"}, {}, {V: text}, {V: num.Float(2)}},
			Ups:    []api.Up{{Local: true}, {Local: true, Index: 3}, {Local: true, Index: 3}}, Kids: []int{2, 3},
		},
		{Regs: 1, Code: []api.Ins{ret()}, Ups: []api.Up{{Index: 2}, {Local: true, Index: 9}}},
		{Code: []api.Ins{ret()}},
	}}
}

func checkIns(t *testing.T, want bool, l ...api.Ins) {
	t.Helper()
	for _, i := range l {
		if got := code.Right(family(i)); got != want {
			t.Errorf("Right with %s (%v) = %v", insText(i), i, got)
		}
	}
}

// free: a number may be any.
const free = -1

// asked is below what A, B and C of each instruction must be, but of those with rows of registers; of texts see TestP10_3Globals.
var asked = map[int][3]int{
	api.INil: {hasRegs, free, free}, api.IBool: {hasRegs, 2, free}, api.IConst: {hasRegs, hasConsts, free}, api.IMove: {hasRegs, hasRegs, free}, api.IGetBox: {hasRegs, hasRegs, free}, api.ISetBox: {hasRegs, hasRegs, free}, api.INewBox: {hasRegs, free, free}, api.IGetUp: {hasRegs, hasUps, free}, api.ISetUp: {hasUps, hasRegs, free},
	api.IClosure: {hasRegs, hasKids, free}, api.ITable: {hasRegs, free, free}, api.IIndex: {hasRegs, hasRegs, hasRegs}, api.ISetIndex: {hasRegs, hasRegs, hasRegs}, api.IAdd: {hasRegs, hasRegs, hasRegs}, api.ISub: {hasRegs, hasRegs, hasRegs}, api.IMul: {hasRegs, hasRegs, hasRegs}, api.IDiv: {hasRegs, hasRegs, hasRegs}, api.IIDiv: {hasRegs, hasRegs, hasRegs}, api.IMod: {hasRegs, hasRegs, hasRegs},
	api.IConcat: {hasRegs, hasRegs, hasRegs}, api.IEq: {hasRegs, hasRegs, hasRegs}, api.ILt: {hasRegs, hasRegs, hasRegs}, api.ILe: {hasRegs, hasRegs, hasRegs}, api.INeg: {hasRegs, hasRegs, free}, api.INot: {hasRegs, hasRegs, free}, api.ILen: {hasRegs, hasRegs, free}, api.IJump: {hasCode, free, free}, api.IJumpIf: {hasRegs, hasCode, free}, api.IJumpNot: {hasRegs, hasCode, free},
	api.IForPrep: {hasRegs - 3, hasCode, free}, api.IForLoop: {hasRegs - 3, hasCode, free},
}

// TestP10_3Numbers: each number of each instruction just at its limits, and beyond; those that an instruction has not may be any.
func TestP10_3Numbers(t *testing.T) {
	if len(asked) != 36-5 { // but Call, TailCall, Return, GetGlobal, SetGlobal
		t.Fatal(len(asked))
	}
	far := []int{-1, -2, math.MinInt, math.MaxInt, 1 << 32, -1 << 32, 200}
	for op, below := range asked {
		for k := range 3 {
			put := func(n int) api.Ins {
				abc := [3]int{}
				abc[k] = n
				return api.Ins{Op: op, A: abc[0], B: abc[1], C: abc[2]}
			}
			for _, n := range far {
				checkIns(t, below[k] == free, put(n))
			}
			if below[k] != free {
				checkIns(t, true, put(0), put(1), put(below[k]-1))
				checkIns(t, false, put(below[k]), put(below[k]+1))
			}
		}
	}
	for _, op := range []int{0, -1, 37, 38, 100, math.MaxInt, math.MinInt} {
		checkIns(t, false, api.Ins{Op: op})
	}
}

// TestP10_3Globals: their constants are texts.
func TestP10_3Globals(t *testing.T) {
	for n, is := range []bool{false, true, false, true, false, false} {
		for r := range hasRegs {
			checkIns(t, is, api.Ins{Op: api.IGetGlobal, A: r, B: n, C: -5}, api.Ins{Op: api.ISetGlobal, A: n, B: r, C: 1000})
		}
		checkIns(t, false, api.Ins{Op: api.IGetGlobal, A: hasRegs, B: n}, api.Ins{Op: api.ISetGlobal, A: n, B: hasRegs}, api.Ins{Op: api.IGetGlobal, A: -1, B: n}, api.Ins{Op: api.ISetGlobal, A: n, B: -1})
	}
	for _, n := range []int{-1, hasConsts, math.MaxInt, math.MinInt} {
		checkIns(t, false, api.Ins{Op: api.IGetGlobal, B: n}, api.Ins{Op: api.ISetGlobal, A: n})
	}
}

// TestP10_3Rows: the registers that calls and returns have, by all pairs of numbers near the limits.
func TestP10_3Rows(t *testing.T) {
	near := []int{math.MinInt, math.MinInt + 1, -hasRegs, -2, -1, 0, 1, 2, 3, 4, 5, 6, 7, 8, 9, 10, 11, 12, math.MaxInt - 1, math.MaxInt}
	there := func(from, n int) bool { // whether n registers from one on are there, one by one
		if n < 0 || n > hasRegs {
			return false
		}
		for k := range n {
			if from < 0 || from >= hasRegs || from+k >= hasRegs {
				return false
			}
		}
		return true
	}
	for _, a := range near {
		for _, b := range near {
			in := 0 <= a && a < hasRegs
			checkIns(t, in && there(a+1, b), api.Ins{Op: api.ITailCall, A: a, B: b}, api.Ins{Op: api.ITailCall, A: a, B: b, C: -9}, api.Ins{Op: api.ITailCall, A: a, B: b, C: 99})
			checkIns(t, there(a, b), api.Ins{Op: api.IReturn, A: a, B: b}, api.Ins{Op: api.IReturn, A: a, B: b, C: -9}, api.Ins{Op: api.IReturn, A: a, B: b, C: 99})
			for _, c := range near {
				checkIns(t, in && there(a+1, b) && there(a, c), api.Ins{Op: api.ICall, A: a, B: b, C: c})
			}
		}
	}
	checkIns(t, true, api.Ins{Op: api.ICall, A: 9, B: 0, C: 1}, api.Ins{Op: api.ICall, A: 9}, api.Ins{Op: api.ICall, B: 9, C: 10}, api.Ins{Op: api.IReturn, A: 10}, api.Ins{Op: api.IReturn, A: 9, B: 1}, api.Ins{Op: api.IReturn, B: 10}, api.Ins{Op: api.ITailCall, A: 8, B: 1})
	checkIns(t, false, api.Ins{Op: api.ICall, A: 9, B: 1}, api.Ins{Op: api.ICall, A: 9, C: 2}, api.Ins{Op: api.ICall, A: 10}, api.Ins{Op: api.ICall, B: 10}, api.Ins{Op: api.ICall, C: 11}, api.Ins{Op: api.ICall, A: 1, B: -1}, api.Ins{Op: api.ICall, A: 1, C: -1}, api.Ins{Op: api.IReturn, A: 9, B: 2}, api.Ins{Op: api.IReturn, B: 11}, api.Ins{Op: api.IReturn, A: 1, B: -1}, api.Ins{Op: api.ITailCall, A: 9, B: 1}, api.Ins{Op: api.ITailCall, A: 1, B: -1})
}

// change is a right program in which something was changed, and whether it is right then.
func change(t *testing.T, want bool, what string, do func(p *api.Program)) {
	t.Helper()
	p := family(ret())
	do(&p)
	if got := code.Right(p); got != want {
		t.Errorf("Right with %s = %v", what, got)
	}
}

// TestP10_3Sizes: Params, Regs, and that there is a function, with instructions.
func TestP10_3Sizes(t *testing.T) {
	if code.Right(api.Program{}) || code.Right(api.Program{Protos: []api.Proto{}}) || code.Right(api.Program{Protos: []api.Proto{{}}}) || !code.Right(api.Program{Protos: []api.Proto{{Code: []api.Ins{ret()}}}}) {
		t.Error("programs with next to nothing")
	}
	for f := range 4 {
		for _, r := range []struct {
			params, regs int
			want         bool
		}{
			{0, 10, true}, {10, 10, true}, {11, 10, false}, {-1, 10, false}, {0, api.MaxRegs, true}, {api.MaxRegs, api.MaxRegs, true}, {0, api.MaxRegs + 1, false}, {api.MaxRegs + 1, api.MaxRegs + 1, false}, {0, math.MaxInt, false}, {math.MinInt, 10, false}, {0, -1, false}, {-1, -1, false}, {-2, -1, false},
		} {
			change(t, r.want, "Params and Regs", func(p *api.Program) { p.Protos[f].Params, p.Protos[f].Regs = r.params, r.regs })
		}
		change(t, false, "no instructions", func(p *api.Program) { p.Protos[f].Code = nil })
		for op := -1; op < 40; op++ {
			change(t, op == api.IReturn, "another last instruction", func(p *api.Program) {
				p.Protos[f].Regs = 10
				last := len(p.Protos[f].Code) - 1
				p.Protos[f].Code[last].Op = op
			})
		}
		change(t, false, "an instruction behind the last one", func(p *api.Program) {
			p.Protos[f].Regs = 10
			p.Protos[f].Code = append(p.Protos[f].Code, api.Ins{Op: api.INil})
		})
		change(t, true, "a Return behind the last one", func(p *api.Program) { p.Protos[f].Code = append(p.Protos[f].Code, ret()) })
	}
	none := api.Program{Protos: []api.Proto{{Code: []api.Ins{ret()}}}}
	for op := api.INil; op < api.IReturn; op++ {
		none.Protos[0].Code = []api.Ins{{Op: op}, ret()}
		if got := code.Right(none); got != (op == api.IJump) {
			t.Errorf("Right of %s without registers = %v", insText(api.Ins{Op: op}), got)
		}
	}
}

// TestP10_3Consts: a number, a text, nothing at all.
func TestP10_3Consts(t *testing.T) {
	for _, r := range []struct {
		c    api.Const
		want bool
	}{
		{api.Const{}, true}, {api.Const{V: num.Int(0)}, true}, {api.Const{V: num.Int(math.MinInt64)}, true}, {api.Const{V: num.Float(math.NaN())}, true}, {api.Const{V: num.Float(math.Inf(-1))}, true}, {api.Const{V: api.Value{T: api.TStr}, S: "a"}, true}, {api.Const{V: api.Value{T: api.TStr}}, true}, {api.Const{V: api.Value{T: api.TStr}, S: "\x00\xff"}, true},
		{api.Const{S: "a"}, false}, {api.Const{V: api.Value{N: 1}}, false}, {api.Const{V: api.Value{T: api.TStr, N: 1}, S: "a"}, false}, {api.Const{V: api.Value{T: api.TStr, N: -1}}, false}, {api.Const{V: api.Value{T: api.TBool}}, false}, {api.Const{V: api.Value{T: api.TBool, N: 1}}, false}, {api.Const{V: api.Value{T: api.TTable, N: 1}}, false}, {api.Const{V: api.Value{T: api.TFunc}}, false},
		{api.Const{V: api.Value{T: api.TBox}}, false}, {api.Const{V: api.Value{T: api.TThread}}, false}, {api.Const{V: api.Value{T: api.TProto}}, false}, {api.Const{V: api.Value{T: api.TNative}}, false}, {api.Const{V: api.Value{T: api.TDead, N: 1}}, false}, {api.Const{V: api.Value{T: 12}}, false}, {api.Const{V: api.Value{T: -1}}, false}, {api.Const{V: api.Value{T: api.TFloat, N: 0x7ff8000000000000}}, false},
	} {
		for _, at := range []int{0, 1, 4} {
			change(t, r.want, constText(r.c), func(p *api.Program) {
				p.Protos[1].Consts[at] = r.c
				p.Protos[1].Code[0] = api.Ins{Op: api.IConst, B: at}
			})
		}
		for f := range 4 {
			change(t, r.want, constText(r.c), func(p *api.Program) { p.Protos[f].Consts = append(p.Protos[f].Consts, r.c) })
		}
	}
	change(t, true, "one constant twice", func(p *api.Program) {
		p.Protos[0].Consts = []api.Const{{V: num.Int(1)}, {V: num.Int(1)}}
	})
}

// TestP10_3Kids: functions behind, whose ups are there.
func TestP10_3Kids(t *testing.T) {
	for f := range 4 {
		for k := -2; k < 7; k++ {
			want := f < k && k < 4 && (k != 1 || f == 0) && (k != 2 || f == 1)
			change(t, want, "a kid", func(p *api.Program) { p.Protos[f].Kids = append(p.Protos[f].Kids, k) })
			change(t, want, "a kid ahead", func(p *api.Program) { p.Protos[f].Kids = append([]int{k}, p.Protos[f].Kids...) })
		}
		for _, k := range []int{math.MinInt, math.MaxInt} {
			change(t, false, "a kid far off", func(p *api.Program) { p.Protos[f].Kids = []int{k} })
		}
	}
	change(t, true, "a kid twice", func(p *api.Program) { p.Protos[1].Kids = []int{3, 2, 3, 2} })
	change(t, true, "functions that are no kids", func(p *api.Program) { p.Protos[0].Kids, p.Protos[1].Kids = nil, nil })
	change(t, false, "one function less", func(p *api.Program) { p.Protos = p.Protos[:3] })
	change(t, true, "one function more", func(p *api.Program) { p.Protos = append(p.Protos, api.Proto{Code: []api.Ins{ret()}}) })
	change(t, false, "one function more, of nothing", func(p *api.Program) { p.Protos = append(p.Protos, api.Proto{}) })
}

// TestP10_3Ups: registers of the function around, or ups of it.
func TestP10_3Ups(t *testing.T) {
	for _, r := range []struct {
		f    int
		up   api.Up
		want bool
	}{
		{1, api.Up{Local: true, Index: 3}, true}, {1, api.Up{Local: true, Index: 4}, false}, {1, api.Up{Local: true, Index: -1}, false}, {1, api.Up{Index: 0}, false}, {1, api.Up{Index: -1}, false}, {1, api.Up{Local: true, Index: 0}, true},
		{2, api.Up{Local: true, Index: 9}, true}, {2, api.Up{Local: true, Index: 10}, false}, {2, api.Up{Index: 2}, true}, {2, api.Up{Index: 3}, false}, {2, api.Up{Index: -1}, false}, {2, api.Up{Local: true, Index: -1}, false}, {2, api.Up{Index: math.MaxInt}, false}, {2, api.Up{Local: true, Index: math.MinInt}, false},
		{3, api.Up{Index: 0}, true}, {3, api.Up{Index: 9}, false}, {3, api.Up{Local: true, Index: 0}, true},
		{0, api.Up{}, false}, {0, api.Up{Local: true}, false}, {0, api.Up{Local: true, Index: 3}, false},
	} {
		change(t, r.want, "an up more", func(p *api.Program) { p.Protos[r.f].Ups = append(p.Protos[r.f].Ups, r.up) })
		change(t, r.want, "an up ahead", func(p *api.Program) { p.Protos[r.f].Ups = append([]api.Up{r.up}, p.Protos[r.f].Ups...) })
	}
	change(t, true, "ups of a function that is no kid", func(p *api.Program) {
		p.Protos[3].Ups = []api.Up{{Index: -5}, {Local: true, Index: 900}}
		p.Protos[1].Kids = []int{2}
	})
	change(t, false, "ups that one of two functions around has not", func(p *api.Program) {
		p.Protos[3].Ups = []api.Up{{Local: true, Index: 9}}
		p.Protos[0].Kids = []int{1, 3}
	})
	change(t, false, "fewer ups around", func(p *api.Program) { p.Protos[1].Ups = p.Protos[1].Ups[:2] })
	change(t, false, "fewer registers around", func(p *api.Program) { p.Protos[0].Regs = 3 })
}

// TestP10_3EachFunction: one wrong instruction, in whatever function and wherever in it.
func TestP10_3EachFunction(t *testing.T) {
	for f := range 4 {
		for at := range len(family(ret()).Protos[f].Code) {
			change(t, false, "an instruction that there is not", func(p *api.Program) {
				p.Protos[f].Code = slices.Insert(p.Protos[f].Code, at, api.Ins{Op: 99})
			})
			change(t, false, "a jump that leads nowhere", func(p *api.Program) {
				p.Protos[f].Code = slices.Insert(p.Protos[f].Code, at, api.Ins{Op: api.IJump, A: len(p.Protos[f].Code) + 1})
			})
			change(t, true, "a jump to the last one", func(p *api.Program) {
				p.Protos[f].Code = slices.Insert(p.Protos[f].Code, at, api.Ins{Op: api.IJump, A: len(p.Protos[f].Code)})
			})
		}
	}
}

// TestP10_3Memory: what is handed in stays as it was.
func TestP10_3Memory(t *testing.T) {
	p := family(ret())
	if !code.Right(p) || !code.Right(p) || !reflect.DeepEqual(p, family(ret())) {
		t.Error(p)
	}
}
