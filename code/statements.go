package code

import (
	"heirloom/api"
	"heirloom/num"
)

// block gives the registers of its variables back at its end.
func (f *function) block(n api.Node) {
	free := f.free
	for _, s := range n.L {
		f.statement(s)
	}
	f.free = free
}

func (f *function) statement(n api.Node) {
	switch n.Kind {
	case api.NLocal:
		f.list(n.L[n.Count:], n.Count, f.free)
		f.know(n.L[:n.Count])
	case api.NAssign:
		f.assign(n.L[:n.Count], n.L[n.Count:])
	case api.NDo:
		f.call(n.L[0].L, f.free, 0)
	case api.NIf:
		f.choice(n.L)
	case api.NWhile:
		f.while(n.L[0], n.L[1])
	case api.NFor:
		f.count(n.L)
	case api.NReturn:
		f.giveBack(n.L)
	case api.NBreak:
		f.leave(n.At)
	case api.NLocalFunc:
		f.localFunction(n.L[:1], n.L[1])
	case api.NGroup:
		f.block(n.L[0])
	}
}

// assign has all tables and keys lie there ahead of the list: nothing is written till all is reckoned.
func (f *function) assign(targets, list []api.Node) {
	r := f.free
	for _, t := range targets {
		if t.Kind == api.NIndex {
			f.each(t.L, r)
			r += 2
		}
	}
	f.list(list, len(targets), r)
	table := f.free
	for i, t := range targets {
		if t.Kind == api.NName {
			f.set(t, r+i)
			continue
		}
		f.emit(api.ISetIndex, table, table+1, r+i)
		table += 2
	}
}

// choice has a condition and a block each, and perhaps a block more.
func (f *function) choice(parts []api.Node) {
	var ends []func()
	for i := 0; i+1 < len(parts); i += 2 {
		f.put(parts[i], f.free)
		next := f.jump(api.IJumpNot, f.free)
		f.block(parts[i+1])
		if i+2 < len(parts) {
			ends = append(ends, f.jump(api.IJump))
		}
		next()
	}
	if last := len(parts) - 1; last%2 == 0 {
		f.block(parts[last])
	}
	callAll(ends)
}

func callAll(l []func()) {
	for _, call := range l {
		call()
	}
}

// loop has all that leaves it, from whatever block within, go on behind it.
func (f *function) loop(inner func()) {
	f.loops = append(f.loops, nil)
	inner()
	last := len(f.loops) - 1
	callAll(f.loops[last])
	f.loops = f.loops[:last]
}

// atEnd keeps a jump to the end of the innermost loop.
func (f *function) atEnd(jump func()) {
	last := len(f.loops) - 1
	f.loops[last] = append(f.loops[last], jump)
}

func (f *function) leave(at int) {
	if len(f.loops) == 0 {
		f.strays = append(f.strays, at)
		return
	}
	f.atEnd(f.jump(api.IJump))
}

func (f *function) while(condition, body api.Node) {
	f.loop(func() {
		begin := len(f.Code)
		f.put(condition, f.free)
		f.atEnd(f.jump(api.IJumpNot, f.free))
		f.block(body)
		f.emit(api.IJump, begin)
	})
}

// count is a for. Its variable lies behind its three numbers, which are no variables: a block that writes it does not change how often it runs.
func (f *function) count(parts []api.Node) {
	r, last := f.free, len(parts)-1
	f.each(parts[1:last], r)
	if last == 3 {
		f.put(api.Node{Kind: api.NNumber, V: num.Int(1)}, r+2)
	}
	f.loop(func() {
		f.atEnd(f.jump(api.IForPrep, r))
		begin := len(f.Code)
		f.free = r + 3
		f.know(parts[:1])
		f.block(parts[last])
		f.free = r
		f.emit(api.IForLoop, r, begin)
	})
}

func (f *function) giveBack(l []api.Node) {
	if len(l) == 1 && l[0].Kind == api.NCall {
		f.each(l[0].L, f.free)
		f.emit(api.ITailCall, f.free, len(l[0].L)-1)
		return
	}
	f.each(l, f.free)
	f.emit(api.IReturn, f.free, len(l))
}

// localFunction is known in itself: one that is held needs its box ahead of the closure, which takes it.
func (f *function) localFunction(name []api.Node, body api.Node) {
	r := f.free
	if !f.uses[name[0].At].Held {
		f.know(name)
		f.put(body, r)
		return
	}
	f.put(api.Node{Kind: api.NNil}, r)
	f.know(name)
	f.put(body, r+1)
	f.emit(api.ISetBox, r, r+1)
}
