package vm

import (
	"cmp"

	"heirloom/api"
	"heirloom/num"
)

// operate does an operation: what it says of values of its own types, else what a handler of one of them says.
func (m *VM) operate(i api.Ins) {
	switch i.Op {
	case api.IEq:
		m.equal(i)
	case api.ILt, api.ILe:
		m.compare(i)
	case api.IConcat:
		m.concat(i)
	case api.INeg:
		v := m.r(i.B)
		n, err := num.Neg(v)
		m.reckoned(i, n, err, v, v)
	case api.ILen:
		m.length(i)
	default:
		a, b := m.r(i.B), m.r(i.C)
		n, err := num.Op(i.Op-api.IAdd+num.Add, a, b)
		m.reckoned(i, n, err, a, b)
	}
}

// eventOf is the event of an operation.
func eventOf(op int) int {
	switch op {
	case api.IConcat:
		return onConcat
	case api.ILt:
		return onLt
	case api.ILe:
		return onLe
	case api.INeg:
		return onNeg
	}
	return op - api.IAdd + onAdd
}

// reckoned delivers a number, or the handler's answer, if one of the values was none.
func (m *VM) reckoned(i api.Ins, n api.Value, err api.Errno, a, b api.Value) {
	if err == api.ErrType {
		m.ofEither(m.to(i.A), eventOf(i.Op), a, b)
		return
	}
	m.check(err)
	m.deliver(m.to(i.A), n)
}

// ofEither calls the handler of the first one of two values that has one.
func (m *VM) ofEither(w want, event int, a, b api.Value) {
	if !m.called(w, event, a, b) {
		panic(api.ErrType)
	}
}

// called tells whether one of two values has a handler, which is called then.
func (m *VM) called(w want, event int, a, b api.Value) bool {
	h := m.handler(a, event)
	if h.T == api.TNil {
		h = m.handler(b, event)
	}
	if h.T == api.TNil {
		return false
	}
	m.handle(w, h, a, b)
	return true
}

func (m *VM) concat(i api.Ins) {
	a, b := m.r(i.B), m.r(i.C)
	s, isA := m.joined(a)
	t, isB := m.joined(b)
	if !isA || !isB {
		m.ofEither(m.to(i.A), eventOf(i.Op), a, b)
		return
	}
	m.set(i.A, m.text(s+t))
}

func (m *VM) equal(i api.Ins) {
	a, b := m.r(i.B), m.r(i.C)
	is := same(a, b)
	if !is && a.T == api.TTable && b.T == api.TTable && m.called(m.toTruth(i.A), onEq, a, b) {
		return
	}
	m.set(i.A, truthOf(is))
}

func (m *VM) compare(i api.Ins) {
	a, b := m.r(i.B), m.r(i.C)
	c, is := num.Cmp(a, b) // of a NaN neither is so
	switch {
	case num.Is(a) && num.Is(b):
	case a.T == api.TStr && b.T == api.TStr:
		c, is = cmp.Compare(m.said(a), m.said(b)), true
	default:
		m.ofEither(m.toTruth(i.A), eventOf(i.Op), a, b)
		return
	}
	m.set(i.A, truthOf(is && (c < 0 || c == 0 && i.Op == api.ILe)))
}

func (m *VM) length(i api.Ins) {
	v := m.r(i.B)
	if h := m.handler(v, onLen); h.T != api.TNil {
		m.handle(m.to(i.A), h, v)
		return
	}
	m.set(i.A, m.lengthOf(v))
}

// lengthOf is how many bytes a string has, or keys from 1 on a table.
func (m *VM) lengthOf(v api.Value) api.Value {
	if v.T == api.TStr {
		return num.Int(int64(len(m.said(v))))
	}
	n, err := m.heap.Len(v) // of no table: ErrType
	m.check(err)
	return num.Int(int64(n))
}
