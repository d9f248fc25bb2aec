package vm

import (
	"slices"

	"heirloom/api"
)

// ofCoroutine are the answers of native functions that make a coroutine, or look at one.
func (m *VM) ofCoroutine(number int64, v api.Value) []api.Value {
	switch number {
	case api.NatCreate:
		if v.T != api.TFunc {
			panic(api.ErrType)
		}
		return []api.Value{m.newCoroutine(v)}
	case api.NatStatus:
		return []api.Value{m.text(statusNames[m.coroutineOf(v).status])}
	case api.NatClose:
		m.closeCoroutine(m.coroutineOf(v))
		return []api.Value{truthOf(true)}
	}
	panic(api.ErrType) // a number that no native function has
}

func (m *VM) coroutineOf(v api.Value) *coroutine {
	if v.T != api.TThread {
		panic(api.ErrType)
	}
	return m.coroutines[int(v.N)]
}

func (m *VM) closeCoroutine(c *coroutine) {
	if c.status == running || c.status == normal {
		panic(api.ErrState)
	}
	c.status = dead
	m.clearAll(c)
}

// resume is that a coroutine runs, or runs on.
func (m *VM) resume(l []api.Value, w want) {
	c := m.coroutineOf(at(l, 0))
	switch {
	case c.status != suspended:
		m.deliver(w, truthOf(false), m.text(api.ErrState.Error()))
		return
	case m.depth() >= api.MaxNest:
		m.deliver(w, truthOf(false), m.text(api.ErrDeep.Error()))
		return
	}
	c.resumer, c.resumed = m.running, w
	m.running.status = normal
	m.turnTo(c)
	if c.begun {
		m.deliver(c.yielded, l[1:]...)
		return
	}
	c.begun = true
	m.start(l[1:])
}

// start is that the function of the coroutine that runs is called for the first time.
func (m *VM) start(l []api.Value) {
	w := want{kind: into}
	m.under = w
	m.have(len(l) + 1)
	m.setRow(1, l...)
	m.call(0, len(l), w)
}

// yield is that the coroutine that runs is suspended.
func (m *VM) yield(l []api.Value, w want) {
	c := m.running
	if c == m.first || c == m.finaliser {
		panic(api.ErrState)
	}
	c.status, c.yielded = suspended, w
	m.turnBack(slices.Insert(l, 0, truthOf(true))...)
}
