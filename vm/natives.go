package vm

import (
	"strings"

	"heirloom/api"
)

// nativeNames are the names by which the globals have the native functions.
var nativeNames = [...]string{
	api.NatEmit: "emit", api.NatType: "type", api.NatText: "tostring", api.NatSetMeta: "setmeta", api.NatGetMeta: "getmeta",
	api.NatRawGet: "rawget", api.NatRawSet: "rawset", api.NatRawLen: "rawlen", api.NatRawEqual: "rawequal", api.NatNext: "next",
	api.NatPcall: "pcall", api.NatError: "error", api.NatCreate: "create", api.NatResume: "resume", api.NatYield: "yield",
	api.NatStatus: "status", api.NatClose: "close", api.NatCollect: "collect",
}

// callNative calls a native function: its arguments lie behind the register s.
func (m *VM) callNative(number int64, s, n int, w want) {
	switch number {
	case api.NatPcall:
		if n == 0 {
			panic(api.ErrType)
		}
		m.call(s+1, n-1, w.protecting())
	case api.NatResume:
		m.resume(m.row(s+1, n), w)
	case api.NatYield:
		m.yield(m.row(s+1, n), w)
	default:
		m.deliver(w, m.answers(number, m.row(s+1, n))...)
	}
}

// answers are those of a native function that calls nothing.
func (m *VM) answers(number int64, l []api.Value) []api.Value {
	a := at(l, 0)
	switch number {
	case api.NatEmit:
		m.emit(l)
		return nil
	case api.NatType:
		return []api.Value{m.text(typeNames[a.T])}
	case api.NatText:
		return []api.Value{m.text(m.said(a))}
	case api.NatSetMeta:
		m.setMeta(a, at(l, 1))
		return []api.Value{a}
	case api.NatGetMeta:
		return []api.Value{m.meta(a)}
	case api.NatRawGet, api.NatRawSet, api.NatNext:
		return m.ofTable(number, a, at(l, 1), at(l, 2))
	case api.NatRawLen:
		return []api.Value{m.lengthOf(a)}
	case api.NatRawEqual:
		return []api.Value{truthOf(same(a, at(l, 1)))}
	case api.NatError:
		panic(thrown{a})
	case api.NatCollect:
		m.heap.Major()
		return nil
	}
	return m.ofCoroutine(number, a)
}

// emit puts out a line.
func (m *VM) emit(l []api.Value) {
	var texts []string
	for _, v := range l {
		texts = append(texts, m.said(v))
	}
	m.lines = append(m.lines, strings.Join(texts, " "))
}

// setMeta is that a table has a metatable.
func (m *VM) setMeta(t, meta api.Value) {
	if t.T != api.TTable || meta.T != api.TTable && meta.T != api.TNil {
		panic(api.ErrType)
	}
	m.check(m.heap.SetMeta(t, meta, m.weakness(meta)))
	if m.field(meta, onDrop).T != api.TNil {
		m.heap.Mark(t) // a table that is marked already stays so
	}
}

// weakness is what a table with such a metatable holds weakly.
func (m *VM) weakness(meta api.Value) int {
	letters, is := m.heap.Bytes(m.field(meta, onWeak))
	weak := api.WeakNone
	if is && strings.Contains(letters, "k") {
		weak |= api.WeakKeys
	}
	if is && strings.Contains(letters, "v") {
		weak |= api.WeakValues
	}
	return weak
}

// ofTable are the answers of native functions that use a table without its metatable.
func (m *VM) ofTable(number int64, t, k, v api.Value) []api.Value {
	if t.T != api.TTable {
		panic(api.ErrType)
	}
	switch number {
	case api.NatRawGet:
		return []api.Value{m.get(t, k)}
	case api.NatRawSet:
		m.check(m.heap.Set(t, k, v))
		return []api.Value{t}
	}
	k, v, err := m.heap.Next(t, k)
	m.check(err)
	if k.T == api.TNil {
		return []api.Value{k}
	}
	return []api.Value{k, v}
}
