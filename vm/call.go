package vm

import (
	"slices"

	"heirloom/api"
)

// call calls what lies in a register of the coroutine that runs, with n arguments, which lie behind it.
func (m *VM) call(s, n int, w want) {
	m.under = w
	for moves := 0; ; moves++ {
		v := m.slot(s)
		switch v.T {
		case api.TFunc:
			m.enter(s, n, w)
			return
		case api.TNative:
			m.callNative(v.N, s, n, w)
			return
		}
		h := m.handler(v, onCall)
		if h.T == api.TNil {
			panic(api.ErrType)
		}
		if moves == api.MaxChain {
			panic(api.ErrDeep)
		}
		m.moveUp(s, n, h)
		n++
	}
}

// moveUp is that what is called, and its arguments, lie one register higher: its handler is called with them.
func (m *VM) moveUp(s, n int, h api.Value) {
	m.have(s+n+2, h)
	m.setRow(s, append([]api.Value{h}, m.row(s, n+1)...)...)
}

// enter is that a closure's function runs.
func (m *VM) enter(s, n int, w want) {
	c := m.running
	if len(c.stack) == api.MaxFrames {
		panic(api.ErrDeep)
	}
	number := m.numberOf(m.slot(s))
	f := m.functions[number]
	base := s + 1
	end := base + max(f.Regs, n)
	m.have(end)
	m.clearRow(base+min(f.Params, n), end)
	c.stack = append(c.stack, function{want: w, number: number, base: base})
	m.under = want{}
}

// numberOf is which function a closure is of.
func (m *VM) numberOf(closure api.Value) int {
	v, err := m.heap.Slot(closure, 0)
	m.check(err)
	return slices.Index(m.protos, v)
}

// handle calls a handler, behind the registers of the function that runs.
func (m *VM) handle(w want, h api.Value, l ...api.Value) {
	m.under = w
	s := m.behind()
	called := append([]api.Value{h}, l...)
	m.have(s+len(called), called...)
	m.setRow(s, called...)
	m.call(s, len(l), w)
}

// tailCall is that what lies in a register of the function that runs is called, with n arguments, for the function's own answers.
func (m *VM) tailCall(register, n int) {
	s := m.top().base + register
	if m.slot(s).T != api.TFunc {
		m.call(s, n, want{kind: back})
		return
	}
	called := m.row(s, n+1)
	f := m.leave()
	m.setRow(f.base-1, called...)
	m.call(f.base-1, n, f.want)
}
