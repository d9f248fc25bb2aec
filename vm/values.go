package vm

import (
	"strconv"

	"heirloom/api"
	"heirloom/num"
)

// typeNames are the names of the types of values.
var typeNames = [...]string{
	api.TNil: "nil", api.TBool: "boolean", api.TInt: "number", api.TFloat: "number", api.TStr: "string", api.TTable: "table",
	api.TFunc: "function", api.TBox: "box", api.TThread: "thread", api.TProto: "prototype", api.TNative: "function",
}

// truthOf is true or false.
func truthOf(is bool) api.Value {
	if is {
		return api.Value{T: api.TBool, N: 1}
	}
	return api.Value{T: api.TBool}
}

// isTrue: nothing but nil and false is not.
func isTrue(v api.Value) bool { return v.T != api.TNil && v != truthOf(false) }

// native is a native function.
func native(number int) api.Value { return api.Value{T: api.TNative, N: int64(number)} }

// same: numbers that are the same may be of two types.
func same(a, b api.Value) bool {
	if num.Is(a) && num.Is(b) {
		c, is := num.Cmp(a, b)
		return is && c == 0
	}
	return a == b
}

// said is a value's text.
func (m *VM) said(v api.Value) string {
	switch v.T {
	case api.TNil:
		return "nil"
	case api.TBool:
		return strconv.FormatBool(isTrue(v))
	case api.TInt, api.TFloat:
		return num.Text(v)
	case api.TStr:
		s, _ := m.heap.Bytes(v)
		return s
	case api.TNative:
		return "native " + num.Text(num.Int(v.N))
	}
	o, _ := m.heap.Object(v)
	return typeNames[v.T] + " " + num.Text(num.Int(int64(o.Head.Serial)))
}

// joined is the text of a string or a number; false of others.
func (m *VM) joined(v api.Value) (string, bool) {
	return m.said(v), v.T == api.TStr || num.Is(v)
}

// meta is the metatable of a value; nil: it has none.
func (m *VM) meta(v api.Value) api.Value {
	if v.T != api.TTable {
		return api.Value{}
	}
	t, err := m.heap.Slot(v, 0)
	m.check(err)
	return t
}

// handler is what the metatable of a value has for an event; nil: nothing.
func (m *VM) handler(v api.Value, event int) api.Value { return m.field(m.meta(v), event) }

// field is what a metatable has for an event; nil: nothing.
func (m *VM) field(t api.Value, event int) api.Value {
	if t.T != api.TTable {
		return api.Value{}
	}
	return m.get(t, m.names[event])
}

// get is a key's value.
func (m *VM) get(t, k api.Value) api.Value {
	v, err := m.heap.Get(t, k)
	m.check(err)
	return v
}
