package vm

import "heirloom/api"

// thrown is what a value is thrown as. (An error's number is thrown as itself.)
type thrown struct{ api.Value }

// next does the next instruction, and what comes behind it.
func (m *VM) next() {
	m.guard(func() {
		i := m.fetch()
		m.do(i)
		if mayCollect(i.Op) && m.top() != nil {
			m.collect()
			m.drop()
		}
	})
	m.settle()
}

// fetch is the next instruction.
func (m *VM) fetch() api.Ins {
	f := m.top()
	i := m.functions[f.number].Code[f.next]
	f.next++
	return i
}

// guard does something in which something may be thrown, and sees to it that it is caught.
func (m *VM) guard(do func()) {
	defer func() {
		switch x := recover().(type) {
		case nil:
		case thrown:
			m.catch(x.Value)
		case api.Errno:
			m.catchError(x)
		default:
			panic(x)
		}
	}()
	do()
}

// catchError catches the text of an error; none is caught where there is no room.
func (m *VM) catchError(err api.Errno) {
	if err != api.ErrFull {
		var v api.Value
		v, err = m.heap.Text(err.Error())
		if err == api.OK {
			m.catch(v)
			return
		}
	}
	m.verdict, m.over = api.Spent, true
}

// catch is that what was thrown comes to the innermost want at which it stops: of the call that is under way, or of a function of the coroutine that runs.
func (m *VM) catch(v api.Value) {
	under := m.under
	m.under = want{}
	if under.stops() {
		m.stop(under, v)
		return
	}
	for m.top() != nil {
		if f := m.leave(); f.stops() {
			m.stop(f.want, v)
			return
		}
	}
	if m.running != m.first {
		m.die(truthOf(false), v)
		return
	}
	m.failure = m.said(v)
	m.end(api.Failed)
}

// mayCollect: behind such an instruction there may be less room than ahead of it.
func mayCollect(op int) bool {
	switch op {
	case api.ITable, api.IClosure, api.INewBox, api.IConcat, api.ICall, api.ITailCall:
		return true
	}
	return false
}

// collect does the collector's next point.
func (m *VM) collect() {
	if len(m.points) == 0 {
		return
	}
	p := m.points[0]
	m.points = m.points[1:]
	switch p.Kind {
	case api.PointStep:
		m.heap.Step(p.N)
	case api.PointYoung:
		m.heap.Young()
	case api.PointMajor:
		m.heap.Major()
	case api.PointMode:
		m.heap.SetMode(p.N)
	case api.PointCompact:
		m.heap.Compact()
	}
}

// drop finalises an object, if there is one, and no finaliser runs. It tells whether there was.
func (m *VM) drop() bool {
	if m.finaliser != nil {
		return false
	}
	v, is := m.heap.Take()
	if is {
		m.finaliser = m.running
		m.handle(want{kind: final}, m.handler(v, onDrop), v)
	}
	return is
}

// end is that the program ends: what it alone held is given up.
func (m *VM) end(verdict int) {
	m.verdict = verdict
	m.clearAll(m.first)
	m.turnTo(m.first)
	m.heap.Major()
}

// settle does what is to be done behind the end without an instruction: a finaliser may be a native function, or none that can be called.
func (m *VM) settle() {
	for m.verdict != api.Runs && !m.over && m.top() == nil {
		m.guard(func() { m.over = !m.drop() })
	}
}
