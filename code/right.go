package code

import (
	"slices"

	"heirloom/api"
	"heirloom/num"
)

// What a number of an instruction stands for.
const (
	anyNumber = 0 // it may be any
	aRegister = 1
	aConstant = 2
	aText     = 3 // a constant that is a text
	anUp      = 4
	aKid      = 5
	aJump     = 6
	aTruth    = 7
)

// numbersOf tells what A, B and C of an instruction stand for, but where it has a row of registers: rightRows looks at these.
func numbersOf(op int) [3]int {
	switch op {
	case api.INil, api.INewBox, api.ITable:
		return [3]int{aRegister}
	case api.IBool:
		return [3]int{aRegister, aTruth}
	case api.IConst:
		return [3]int{aRegister, aConstant}
	case api.IMove, api.IGetBox, api.ISetBox, api.INeg, api.INot, api.ILen:
		return [3]int{aRegister, aRegister}
	case api.IGetUp:
		return [3]int{aRegister, anUp}
	case api.ISetUp:
		return [3]int{anUp, aRegister}
	case api.IGetGlobal:
		return [3]int{aRegister, aText}
	case api.ISetGlobal:
		return [3]int{aText, aRegister}
	case api.IClosure:
		return [3]int{aRegister, aKid}
	case api.IJump:
		return [3]int{aJump}
	case api.IJumpIf, api.IJumpNot, api.IForPrep, api.IForLoop:
		return [3]int{aRegister, aJump}
	case api.ICall, api.ITailCall, api.IReturn:
		return [3]int{}
	}
	return [3]int{aRegister, aRegister, aRegister}
}

// checked is a function whose parts are held against one another.
type checked struct{ api.Proto }

func (c checked) right() bool {
	last := len(c.Code) - 1
	return 0 <= c.Params && c.Params <= c.Regs && c.Regs <= api.MaxRegs &&
		last >= 0 && c.Code[last].Op == api.IReturn &&
		all(c.Consts, rightConst) && all(c.Code, c.rightIns)
}

func all[T any](l []T, is func(T) bool) bool {
	return !slices.ContainsFunc(l, func(x T) bool { return !is(x) })
}

func rightConst(c api.Const) bool { return num.Is(c.V) || isText(c) || c == api.Const{} }

func isText(c api.Const) bool { return c.V == api.Value{T: api.TStr} }

func (c checked) rightIns(i api.Ins) bool {
	if i.Op < api.INil || i.Op > api.IReturn {
		return false
	}
	kinds := numbersOf(i.Op)
	return c.rightNumber(kinds[0], i.A) && c.rightNumber(kinds[1], i.B) && c.rightNumber(kinds[2], i.C) && c.rightRows(i)
}

func (c checked) rightNumber(kind, n int) bool {
	switch kind {
	case aRegister:
		return within(n, c.Regs)
	case aConstant:
		return within(n, len(c.Consts))
	case aText:
		return within(n, len(c.Consts)) && isText(c.Consts[n])
	case anUp:
		return within(n, len(c.Ups))
	case aKid:
		return within(n, len(c.Kids))
	case aJump:
		return within(n, len(c.Code))
	case aTruth:
		return within(n, 2)
	}
	return true
}

func within(n, below int) bool { return 0 <= n && n < below }

// rightRows looks at the registers that an instruction has one behind the other.
func (c checked) rightRows(i api.Ins) bool {
	switch i.Op {
	case api.IForPrep, api.IForLoop:
		return c.row(i.A, 4)
	case api.ICall:
		return within(i.A, c.Regs) && c.row(i.A+1, i.B) && c.row(i.A, i.C)
	case api.ITailCall:
		return within(i.A, c.Regs) && c.row(i.A+1, i.B)
	case api.IReturn:
		return c.row(i.A, i.B)
	}
	return true
}

// row tells whether there are so many registers from one on. (They are not added up: the sum might be beyond all ints.)
func (c checked) row(from, n int) bool {
	return n == 0 || n > 0 && within(from, c.Regs) && n <= c.Regs-from
}

// rightKids: functions that lead to greater numbers alone cannot lead to themselves; what a kid's ups tell must be there when its closure is made.
func rightKids(protos []api.Proto, number int) bool {
	f := checked{protos[number]}
	return all(f.Kids, func(k int) bool {
		return k > number && k < len(protos) && all(protos[k].Ups, f.rightUp)
	})
}

func (c checked) rightUp(u api.Up) bool {
	if u.Local {
		return within(u.Index, c.Regs)
	}
	return within(u.Index, len(c.Ups))
}
