package code

import (
	"heirloom/api"
	"heirloom/num"
)

// put puts what an expression says into a register from which on all are free.
func (f *function) put(e api.Node, r int) {
	f.needs(r)
	switch e.Kind {
	case api.NNil:
		f.emit(api.INil, r)
	case api.NTrue:
		f.emit(api.IBool, r, 1)
	case api.NFalse:
		f.emit(api.IBool, r, 0)
	case api.NNumber:
		f.emit(api.IConst, r, f.constant(e.V, ""))
	case api.NText:
		f.emit(api.IConst, r, f.text(e.Text))
	case api.NName:
		f.get(e, r)
	case api.NFunc:
		f.emit(api.IClosure, r, f.kid(e))
	case api.NBin:
		f.two(f.signs[e.Text], e.L, r)
	case api.NUn:
		f.put(e.L[0], r)
		f.emit(signOfOne(e.Text), r, r)
	case api.NIndex:
		f.each(e.L, r)
		f.emit(api.IIndex, r, r, r+1)
	case api.NCall:
		f.call(e.L, r, 1)
	case api.NTable:
		f.table(e.L, r)
	}
}

// each puts expressions into registers one behind the other.
func (f *function) each(l []api.Node, r int) {
	for i, e := range l {
		f.put(e, r+i)
	}
}

// list puts expressions into just so many registers, with as many answers of a call at the end as are missing. (What is beyond them is reckoned all the same: it may do something.)
func (f *function) list(l []api.Node, registers, r int) {
	for i, e := range l {
		if e.Kind == api.NCall && i == len(l)-1 && i < registers {
			f.call(e.L, r+i, registers-i)
			return
		}
		f.put(e, r+i)
	}
	for i := len(l); i < registers; i++ {
		f.put(api.Node{Kind: api.NNil}, r+i)
	}
}

// get puts the value of a name into a register.
func (f *function) get(name api.Node, r int) {
	use := f.uses[name.At]
	switch {
	case use.Of == global:
		f.emit(api.IGetGlobal, r, f.text(name.Text))
	case use.Of != f.number:
		f.emit(api.IGetUp, r, f.up(variable{use.Of, use.Var}))
	case use.Held:
		f.emit(api.IGetBox, r, f.lies[use.Var])
	default:
		f.emit(api.IMove, r, f.lies[use.Var])
	}
}

// set gives a name the value of a register.
func (f *function) set(name api.Node, r int) {
	use := f.uses[name.At]
	switch {
	case use.Of == global:
		f.emit(api.ISetGlobal, f.text(name.Text), r)
	case use.Of != f.number:
		f.emit(api.ISetUp, f.up(variable{use.Of, use.Var}), r)
	case use.Held:
		f.emit(api.ISetBox, f.lies[use.Var], r)
	default:
		f.emit(api.IMove, f.lies[use.Var], r)
	}
}

// two is a sign with its two parts.
func (f *function) two(s sign, parts []api.Node, r int) {
	if s.jumps {
		f.put(parts[0], r)
		pass := f.jump(s.op, r)
		f.put(parts[1], r)
		pass()
		return
	}
	f.each(parts, r)
	if s.turned {
		f.emit(s.op, r, r+1, r)
		return
	}
	f.emit(s.op, r, r, r+1)
	if s.denied {
		f.emit(api.INot, r, r)
	}
}

// call has the function and its arguments, and wants so many answers from r on.
func (f *function) call(l []api.Node, r, answers int) {
	f.each(l, r)
	f.needs(r + answers - 1)
	f.emit(api.ICall, r, len(l)-1, answers)
}

func (f *function) table(items []api.Node, r int) {
	f.emit(api.ITable, r)
	place := int64(0)
	for _, item := range items {
		pair := item.L
		if item.Kind == api.NItem {
			place++
			pair = []api.Node{{Kind: api.NNumber, V: num.Int(place)}, item.L[0]}
		}
		f.each(pair, r+1)
		f.emit(api.ISetIndex, r, r+1, r+2)
	}
}
