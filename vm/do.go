package vm

import "heirloom/api"

// do does an instruction.
func (m *VM) do(i api.Ins) {
	switch i.Op {
	case api.INil, api.IBool, api.IConst, api.IMove, api.INot, api.IGetBox, api.IGetUp, api.IGetGlobal:
		m.set(i.A, m.loaded(i))
	case api.INewBox, api.ITable, api.IClosure:
		m.set(i.A, m.created(i))
	case api.ISetBox:
		m.setBox(m.r(i.A), m.r(i.B))
	case api.ISetUp:
		m.setBox(m.up(i.A), m.r(i.B))
	case api.ISetGlobal:
		m.check(m.heap.Set(m.globals, m.constant(i.A), m.r(i.B)))
	case api.IIndex:
		m.index(m.to(i.A), m.r(i.B), m.r(i.C))
	case api.ISetIndex:
		m.setIndex(m.r(i.A), m.r(i.B), m.r(i.C))
	case api.IJump, api.IJumpIf, api.IJumpNot:
		m.jump(i)
	case api.IForPrep:
		m.forPrep(i.A, i.B)
	case api.IForLoop:
		m.forLoop(i.A, i.B)
	case api.ICall:
		from := m.top().base + i.A
		m.call(from, i.B, want{kind: plain, from: from, n: i.C})
	case api.ITailCall:
		m.tailCall(i.A, i.B)
	case api.IReturn:
		m.giveBack(m.row(m.top().base+i.A, i.B)...)
	default:
		m.operate(i)
	}
}

// r is a register of the function that runs.
func (m *VM) r(i int) api.Value { return m.slot(m.top().base + i) }

func (m *VM) set(i int, v api.Value) { m.setSlot(m.top().base+i, v) }

// loaded is what is put into a register as it is.
func (m *VM) loaded(i api.Ins) api.Value {
	switch i.Op {
	case api.IBool:
		return truthOf(i.B == 1)
	case api.IConst:
		return m.constant(i.B)
	case api.IMove:
		return m.r(i.B)
	case api.INot:
		return truthOf(!isTrue(m.r(i.B)))
	case api.IGetBox:
		return m.inBox(m.r(i.B))
	case api.IGetUp:
		return m.inBox(m.up(i.B))
	case api.IGetGlobal:
		return m.get(m.globals, m.constant(i.B))
	}
	return api.Value{}
}

// created is a new object.
func (m *VM) created(i api.Ins) api.Value {
	var v api.Value
	var err api.Errno
	switch i.Op {
	case api.INewBox:
		v, err = m.heap.Box(m.r(i.A))
	case api.ITable:
		v, err = m.heap.Table()
	case api.IClosure:
		v, err = m.closure(i.B)
	}
	m.check(err)
	return v
}

// closure is one of a kid of the function that runs.
func (m *VM) closure(kid int) (api.Value, api.Errno) {
	number := m.functions[m.top().number].Kids[kid]
	var boxes []api.Value
	for _, u := range m.functions[number].Ups {
		if u.Local {
			boxes = append(boxes, m.r(u.Index))
		} else {
			boxes = append(boxes, m.up(u.Index))
		}
	}
	return m.heap.Func(m.protos[number], boxes...)
}

// part is what lies in a slot of an object.
func (m *VM) part(v api.Value, i int) api.Value {
	x, err := m.heap.Slot(v, i)
	m.check(err)
	return x
}

// constant is one of the function that runs.
func (m *VM) constant(i int) api.Value { return m.part(m.protos[m.top().number], i) }

// up is a box of the closure that runs.
func (m *VM) up(i int) api.Value { return m.part(m.r(-1), i+1) }

func (m *VM) inBox(b api.Value) api.Value {
	wantBox(b)
	return m.part(b, 0)
}

func (m *VM) setBox(b, v api.Value) {
	wantBox(b)
	m.check(m.heap.SetSlot(b, 0, v))
}

func wantBox(b api.Value) {
	if b.T != api.TBox {
		panic(api.ErrType)
	}
}

// index delivers a key's value. Tables are asked one behind the other.
func (m *VM) index(w want, t, k api.Value) {
	for range api.MaxChain {
		v, h := m.ask(t, k, onIndex)
		switch {
		case h.T == api.TNil:
			m.deliver(w, v)
			return
		case h.T != api.TTable:
			m.handle(w, h, t, k)
			return
		}
		t = h
	}
	panic(api.ErrDeep)
}

// setIndex is that a key has a value, in the table that would tell its value.
func (m *VM) setIndex(t, k, v api.Value) {
	for range api.MaxChain {
		_, h := m.ask(t, k, onSetIndex)
		switch {
		case h.T == api.TNil:
			m.check(m.heap.Set(t, k, v))
			return
		case h.T != api.TTable:
			m.handle(want{kind: drop}, h, t, k, v)
			return
		}
		t = h
	}
	panic(api.ErrDeep)
}

// ask is a key's value, or, if that is nil, what the table's metatable has in its place.
func (m *VM) ask(t, k api.Value, event int) (v, h api.Value) {
	if t.T != api.TTable {
		panic(api.ErrType)
	}
	v = m.get(t, k)
	if v.T == api.TNil {
		h = m.handler(t, event)
	}
	return v, h
}
