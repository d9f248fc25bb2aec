package vm

import "heirloom/api"

// The events for which a metatable may have a handler, or more. Those of operations stand in the order of the instructions.
const (
	onIndex = iota
	onSetIndex
	onCall
	onAdd
	onSub
	onMul
	onDiv
	onIDiv
	onMod
	onConcat
	onEq
	onLt
	onLe
	onNeg
	onLen
	onDrop // it is finalised
	onWeak // what it holds weakly
	events
)

// eventNames are the names by which metatables have them.
var eventNames = [events]string{
	"__index", "__newindex", "__call", "__add", "__sub", "__mul", "__div", "__idiv", "__mod", "__concat",
	"__eq", "__lt", "__le", "__unm", "__len", "__gc", "__mode",
}

// begin makes what a machine has at first: the first error.
func (m *VM) begin(p api.Program) (err api.Errno) {
	defer func() {
		switch x := recover().(type) {
		case nil:
		case api.Errno: // nothing else is thrown, as nothing runs yet
			err = x
		default:
			panic(x)
		}
	}()
	for i, name := range eventNames {
		m.names[i] = m.text(name)
		m.heap.Keep(m.names[i])
	}
	for i, f := range p.Protos {
		m.makeProto(i, f.Consts)
	}
	m.makeGlobals()
	m.makeFirst()
	return api.OK
}

// makeProto makes a function's prototype. Its strings are kept up to then alone: it holds them.
func (m *VM) makeProto(number int, l []api.Const) {
	consts := make([]api.Value, len(l))
	texts := 0
	for i, c := range l {
		consts[i] = c.V
		if c.V.T == api.TStr {
			consts[i] = m.text(c.S)
			m.heap.Keep(consts[i])
			texts++
		}
	}
	v, err := m.heap.Proto(number, consts...)
	m.heap.Release(texts)
	m.check(err)
	m.heap.Keep(v)
	m.protos = append(m.protos, v)
}

// makeGlobals makes the table of globals, with the native functions in it.
func (m *VM) makeGlobals() {
	v, err := m.heap.Table()
	m.check(err)
	m.heap.Keep(v)
	m.globals = v
	for n, name := range nativeNames {
		k := m.text(name)
		m.heap.Keep(k)
		err := m.heap.Set(m.globals, k, native(n))
		m.heap.Release(1)
		m.check(err)
	}
}

// makeFirst makes the first coroutine, in which the first function is called.
func (m *VM) makeFirst() {
	v, err := m.heap.Thread(1)
	m.check(err)
	m.first = &coroutine{thread: v, begun: true}
	m.coroutines[int(v.N)] = m.first
	m.turnTo(m.first)
	f, err := m.heap.Func(m.protos[0])
	m.check(err)
	m.setSlot(0, f)
	m.call(0, 0, want{kind: over})
}

// text is a string.
func (m *VM) text(s string) api.Value {
	v, err := m.heap.Text(s)
	m.check(err)
	return v
}

// check throws an error.
func (m *VM) check(err api.Errno) {
	if err != api.OK {
		panic(err)
	}
}
