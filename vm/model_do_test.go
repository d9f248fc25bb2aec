package vm_test

import (
	"slices"
	"strings"

	"heirloom/api"
	"heirloom/num"
	"heirloom/table"
)

// do is the chapter's table of instructions.
func (m *model) do(f *modelFun, i api.Ins) *problem {
	set := func(v api.Value) *problem { m.put(f.base+i.A, v); return nil }
	a := modelWant{kind: "plain", r: f.base + i.A, n: 1}
	isTrue := modelWant{kind: "truth", r: f.base + i.A}
	konst := func(n int) api.Value { return m.at(m.protos[f.number]).slots[n] }
	up := func(n int) *thingy { return m.at(m.at(m.reg(f.base - 1)).slots[n+1]) }
	switch i.Op {
	case api.INil:
		return set(api.Value{})
	case api.IBool:
		return set(boolean(i.B == 1))
	case api.IConst:
		return set(konst(i.B))
	case api.IMove:
		return set(m.r(i.B))
	case api.INewBox:
		return set(m.add(&thingy{kind: api.TBox, slots: []api.Value{m.r(i.A)}}))
	case api.IGetBox, api.ISetBox:
		box := m.r(i.B)
		if i.Op == api.ISetBox {
			box = m.r(i.A)
		}
		if box.T != api.TBox {
			return m.errno(api.ErrType)
		}
		if i.Op == api.IGetBox {
			return set(m.at(box).slots[0])
		}
		m.at(box).slots[0] = m.r(i.B)
	case api.IGetUp:
		return set(up(i.B).slots[0])
	case api.ISetUp:
		up(i.A).slots[0] = m.r(i.B)
	case api.IGetGlobal:
		return set(table.Get(modelStore{m, m.globals}, konst(i.B)))
	case api.ISetGlobal:
		return m.failed(table.Set(modelStore{m, m.globals}, konst(i.A), m.r(i.B)))
	case api.IClosure:
		kid := m.p.Protos[f.number].Kids[i.B]
		slots := []api.Value{m.protos[kid]}
		for _, u := range m.p.Protos[kid].Ups {
			if u.Local {
				slots = append(slots, m.r(u.Index))
			} else {
				slots = append(slots, m.at(m.reg(f.base - 1)).slots[u.Index+1])
			}
		}
		if slices.ContainsFunc(slots[1:], func(v api.Value) bool { return v.T != api.TBox }) {
			return m.errno(api.ErrType)
		}
		return set(m.add(&thingy{kind: api.TFunc, slots: slots}))
	case api.ITable:
		return set(m.add(&thingy{kind: api.TTable}))
	case api.IIndex:
		return m.index(a, m.r(i.B), m.r(i.C))
	case api.ISetIndex:
		return m.setIndex(m.r(i.A), m.r(i.B), m.r(i.C))
	case api.INot:
		return set(boolean(!truthy(m.r(i.B))))
	case api.IJump:
		f.next = i.A
	case api.IJumpIf, api.IJumpNot:
		if truthy(m.r(i.A)) == (i.Op == api.IJumpIf) {
			f.next = i.B
		}
	case api.IForPrep, api.IForLoop:
		return m.loop(f, i)
	case api.ICall:
		return m.call(f.base+i.A, i.B, modelWant{kind: "plain", r: f.base + i.A, n: i.C})
	case api.ITailCall:
		s := f.base + i.A
		if m.reg(s).T != api.TFunc {
			return m.call(s, i.B, modelWant{kind: "back"})
		}
		l := slices.Clone(m.regs().slots[s : s+1+i.B])
		m.leave()
		copy(m.regs().slots[f.base-1:], l)
		return m.call(f.base-1, i.B, f.want)
	case api.IReturn:
		var l []api.Value
		if i.B > 0 {
			l = slices.Clone(m.regs().slots[f.base+i.A : f.base+i.A+i.B])
		}
		m.leave()
		m.deliver(f.want, l...)
	default:
		return m.operate(i, a, isTrue)
	}
	return nil
}

func (m *model) failed(e api.Errno) *problem {
	if e == api.OK {
		return nil
	}
	return m.errno(e)
}

func (m *model) operate(i api.Ins, a, isTrue modelWant) *problem {
	x, y := m.r(i.B), m.r(i.B)
	if i.Op != api.INeg && i.Op != api.ILen {
		y = m.r(i.C)
	}
	either := func(w modelWant, name string) (*problem, bool) {
		h := m.has(x, name)
		if h.T == api.TNil {
			h = m.has(y, name)
		}
		if h.T == api.TNil {
			return m.errno(api.ErrType), false
		}
		return m.handler(w, h, x, y), true
	}
	reckoned := func(v api.Value, e api.Errno, name string) *problem {
		if e == api.ErrType {
			p, _ := either(a, name)
			return p
		}
		if e == api.OK {
			m.put(a.r, v)
		}
		return m.failed(e)
	}
	stringish := func(v api.Value) bool { return v.T == api.TStr || num.Is(v) }
	switch i.Op {
	case api.IAdd, api.ISub, api.IMul, api.IDiv, api.IIDiv, api.IMod:
		n := i.Op - api.IAdd
		v, e := num.Op([]int{num.Add, num.Sub, num.Mul, num.Div, num.IDiv, num.Mod}[n], x, y)
		return reckoned(v, e, []string{"__add", "__sub", "__mul", "__div", "__idiv", "__mod"}[n])
	case api.INeg:
		v, e := num.Neg(x)
		return reckoned(v, e, "__unm")
	case api.IConcat:
		if !stringish(x) || !stringish(y) {
			p, _ := either(a, "__concat")
			return p
		}
		s := m.textOf(x) + m.textOf(y)
		if len(s) > api.MaxText {
			return m.errno(api.ErrLong)
		}
		m.put(a.r, m.str(s))
	case api.IEq:
		if !m.alike(x, y) && x.T == api.TTable && y.T == api.TTable {
			if p, is := either(isTrue, "__eq"); is {
				return p
			}
		}
		m.put(a.r, boolean(m.alike(x, y)))
	case api.ILt, api.ILe:
		var is bool
		switch {
		case num.Is(x) && num.Is(y):
			c, ok := num.Cmp(x, y)
			is = ok && (c == -1 || c == 0 && i.Op == api.ILe)
		case x.T == api.TStr && y.T == api.TStr:
			c := strings.Compare(m.at(x).text, m.at(y).text)
			is = c == -1 || c == 0 && i.Op == api.ILe
		default:
			p, _ := either(isTrue, map[int]string{api.ILt: "__lt", api.ILe: "__le"}[i.Op])
			return p
		}
		m.put(a.r, boolean(is))
	case api.ILen:
		if h := m.has(x, "__len"); h.T != api.TNil {
			return m.handler(a, h, x)
		}
		v, p := m.length(x)
		if p == nil {
			m.put(a.r, v)
		}
		return p
	}
	return nil
}

func (m *model) length(x api.Value) (api.Value, *problem) {
	switch x.T {
	case api.TStr:
		return num.Int(int64(len(m.at(x).text))), nil
	case api.TTable:
		return num.Int(int64(table.Len(modelStore{m, x}))), nil
	}
	return api.Value{}, m.errno(api.ErrType)
}

func (m *model) index(w modelWant, t, k api.Value) *problem {
	for asked := 0; asked < api.MaxChain; asked++ {
		if t.T != api.TTable {
			return m.errno(api.ErrType)
		}
		v, h := table.Get(modelStore{m, t}, k), m.has(t, "__index")
		if v.T != api.TNil || h.T == api.TNil {
			m.deliver(w, v)
			return nil
		}
		if h.T != api.TTable {
			return m.handler(w, h, t, k)
		}
		t = h
	}
	return m.errno(api.ErrDeep)
}

func (m *model) setIndex(t, k, x api.Value) *problem {
	for asked := 0; asked < api.MaxChain; asked++ {
		if t.T != api.TTable {
			return m.errno(api.ErrType)
		}
		v, h := table.Get(modelStore{m, t}, k), m.has(t, "__newindex")
		if v.T != api.TNil || h.T == api.TNil {
			return m.failed(table.Set(modelStore{m, t}, k, x))
		}
		if h.T != api.TTable {
			return m.handler(modelWant{kind: "drop"}, h, t, k, x)
		}
		t = h
	}
	return m.errno(api.ErrDeep)
}

func (m *model) loop(f *modelFun, i api.Ins) *problem {
	n, bound, step := m.r(i.A), m.r(i.A+1), m.r(i.A+2)
	zero := num.Int(0)
	below := func(a, b api.Value) bool { c, is := num.Cmp(a, b); return is && c < 0 }
	isNaN := func(v api.Value) bool { _, is := num.Cmp(v, v); return !is }
	beyond := func(v api.Value) bool {
		return isNaN(v) || isNaN(bound) || !below(step, zero) && below(bound, v) || below(step, zero) && below(v, bound)
	}
	if i.Op == api.IForPrep {
		switch {
		case !num.Is(n) || !num.Is(bound) || !num.Is(step):
			return m.errno(api.ErrType)
		case m.alike(step, zero):
			return m.errno(api.ErrZero)
		case beyond(n):
			f.next = i.B
		default:
			m.put(f.base+i.A+3, n)
		}
		return nil
	}
	next, e := num.Op(num.Add, n, step)
	if e != api.OK {
		return m.errno(e)
	}
	if (below(step, zero) && below(next, n) || below(zero, step) && below(n, next)) && !beyond(next) {
		m.put(f.base+i.A, next)
		m.put(f.base+i.A+3, next)
		f.next = i.B
	}
	return nil
}

// native is the chapter's table of native functions.
func (m *model) native(number, s, n int, w modelWant) *problem {
	l := slices.Clone(m.regs().slots[s+1 : s+1+n])
	for len(l) < 3 {
		l = append(l, api.Value{})
	}
	x := l[0]
	answer := func(l ...api.Value) *problem { m.deliver(w, l...); return nil }
	wrong := m.errno(api.ErrType)
	if x.T != api.TTable && slices.Contains([]string{"setmeta", "rawget", "rawset", "next"}, nativeNames[number]) {
		return wrong
	}
	if x.T != api.TThread && slices.Contains([]string{"resume", "status", "close"}, nativeNames[number]) {
		return wrong
	}
	switch nativeNames[number] {
	case "emit":
		var texts []string
		for _, v := range l[:n] {
			texts = append(texts, m.textOf(v))
		}
		m.lines = append(m.lines, strings.Join(texts, " "))
		return answer()
	case "type":
		return answer(m.str(m.typeOf(x)))
	case "tostring":
		return answer(m.str(m.textOf(x)))
	case "setmeta":
		if l[1].T != api.TNil && l[1].T != api.TTable {
			return wrong
		}
		m.setMeta(x, l[1])
		return answer(x)
	case "getmeta":
		return answer(m.metatable(x))
	case "rawget":
		return answer(table.Get(modelStore{m, x}, l[1]))
	case "rawset":
		if e := table.Set(modelStore{m, x}, l[1], l[2]); e != api.OK {
			return m.errno(e)
		}
		return answer(x)
	case "rawlen":
		v, p := m.length(x)
		if p != nil {
			return p
		}
		return answer(v)
	case "rawequal":
		return answer(boolean(m.alike(x, l[1])))
	case "next":
		k, v, e := table.Next(modelStore{m, x}, l[1])
		if e != api.OK {
			return m.errno(e)
		}
		return answer(k, v)
	case "pcall":
		if n == 0 {
			return wrong
		}
		w.trues++
		return m.call(s+1, n-1, w)
	case "error":
		return &problem{x}
	case "collect":
		m.major()
		return answer()
	case "create":
		if x.T != api.TFunc {
			return wrong
		}
		c := &modelCo{state: "suspended", fresh: true, thread: m.add(&thingy{kind: api.TThread, slots: []api.Value{x}})}
		m.cos[c.thread.N] = c
		return answer(c.thread)
	case "status":
		return answer(m.str(m.cos[x.N].state))
	}
	return m.switches(nativeNames[number], l[:max(n, 1)], l[:n], w)
}

func (m *model) setMeta(t, meta api.Value) {
	o := m.at(t)
	o.meta, o.weak = meta, api.WeakNone
	if mode := m.has(t, "__mode"); mode.T == api.TStr {
		if strings.Contains(m.at(mode).text, "k") {
			o.weak += api.WeakKeys
		}
		if strings.Contains(m.at(mode).text, "v") {
			o.weak += api.WeakValues
		}
	}
	if m.has(t, "__gc").T != api.TNil && o.fin == 0 {
		m.marks++
		o.fin = m.marks
	}
}

// switches are resume, yield and close.
func (m *model) switches(name string, at, args []api.Value, w modelWant) *problem {
	switch name {
	case "yield":
		if m.runs == m.first || m.dropper == m.runs {
			return m.errno(api.ErrState)
		}
		m.runs.state, m.runs.yielded = "suspended", w
		m.wake(append([]api.Value{boolean(true)}, args...))
		return nil
	case "close":
		c := m.cos[at[0].N]
		if c.state == "running" || c.state == "normal" {
			return m.errno(api.ErrState)
		}
		c.state, c.running = "dead", nil
		clear(m.at(c.thread).slots)
		m.deliver(w, boolean(true))
		return nil
	}
	c := m.cos[at[0].N]
	depth := 0
	for x := m.runs; x != nil; x = x.by {
		depth++
	}
	switch {
	case c.state != "suspended":
		m.deliver(w, boolean(false), m.str("error 9"))
		return nil
	case depth == api.MaxNest:
		m.deliver(w, boolean(false), m.str("error 14"))
		return nil
	}
	m.runs.state, c.state, c.by, c.resumed = "normal", "running", m.runs, w
	m.runs = c
	args = args[1:]
	if !c.fresh {
		m.deliver(c.yielded, args...)
		return nil
	}
	c.fresh = false
	e := m.have(len(args) + 1)
	if e == nil {
		for i, v := range args {
			m.put(1+i, v)
		}
		e = m.call(0, len(args), modelWant{kind: "into"})
	}
	return e
}
