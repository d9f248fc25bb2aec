package run_test

import (
	"slices"
	"strings"

	"heirloom/api"
	"heirloom/num"
)

// do is the chapter's table of instructions.
func (m *twin) do(f *twinFun, i api.Ins) *problem {
	set := func(v api.Value) *problem { m.put(f.base+i.A, v); return nil }
	konst := func(n int) api.Value { return m.at(m.protos[f.number]).slots[n] }
	up := func(n int) api.Value { return m.at(m.reg(f.base - 1)).slots[n+1] }
	switch i.Op {
	case api.INil:
		return set(api.Value{})
	case api.IBool:
		return set(boolean(i.B == 1))
	case api.IConst:
		return set(konst(i.B))
	case api.IMove:
		return set(m.r(i.B))
	case api.INewBox:
		return set(m.object(api.TBox, m.r(i.A)))
	case api.IGetBox:
		if m.r(i.B).T != api.TBox {
			return m.errno(api.ErrType)
		}
		return set(m.at(m.r(i.B)).slots[0])
	case api.ISetBox:
		if m.r(i.A).T != api.TBox {
			return m.errno(api.ErrType)
		}
		m.setSlot(m.r(i.A), 0, m.r(i.B))
	case api.IGetUp:
		return set(m.at(up(i.B)).slots[0])
	case api.ISetUp:
		m.setSlot(up(i.A), 0, m.r(i.B))
	case api.IGetGlobal:
		return set(m.get(m.globals, konst(i.B)))
	case api.ISetGlobal:
		return m.failed(m.set(m.globals, konst(i.A), m.r(i.B)))
	case api.IClosure:
		kid := m.p.Protos[f.number].Kids[i.B]
		slots := []api.Value{m.protos[kid]}
		for _, u := range m.p.Protos[kid].Ups {
			if u.Local {
				slots = append(slots, m.r(u.Index))
			} else {
				slots = append(slots, up(u.Index))
			}
		}
		if slices.ContainsFunc(slots[1:], func(v api.Value) bool { return v.T != api.TBox }) {
			return m.errno(api.ErrType)
		}
		return set(m.object(api.TFunc, slots...))
	case api.ITable:
		return set(m.table())
	case api.INot:
		return set(boolean(!truthy(m.r(i.B))))
	case api.IJump:
		f.next = i.A
	case api.IJumpIf, api.IJumpNot:
		if truthy(m.r(i.A)) == (i.Op == api.IJumpIf) {
			f.next = i.B
		}
	default:
		return m.doMore(f, i)
	}
	return nil
}

func (m *twin) doMore(f *twinFun, i api.Ins) *problem {
	s := f.base + i.A
	plain := want{kind: "plain", r: s, n: 1}
	switch i.Op {
	case api.IIndex:
		return m.index(plain, m.r(i.B), m.r(i.C))
	case api.ISetIndex:
		return m.setIndex(m.r(i.A), m.r(i.B), m.r(i.C))
	case api.IForPrep, api.IForLoop:
		return m.loop(f, i)
	case api.ICall:
		plain.n = i.C
		return m.call(s, i.B, plain)
	case api.ITailCall:
		if m.reg(s).T != api.TFunc {
			return m.call(s, i.B, want{kind: "back"})
		}
		l := slices.Clone(m.regs()[s : s+1+i.B])
		m.leave()
		for k, v := range l {
			m.put(f.base-1+k, v)
		}
		return m.call(f.base-1, i.B, f.want)
	case api.IReturn:
		var l []api.Value
		if i.B > 0 {
			l = slices.Clone(m.regs()[s : s+i.B])
		}
		m.leave()
		m.deliver(f.want, l...)
		return nil
	}
	y := i.B
	if i.Op != api.INeg && i.Op != api.ILen {
		y = i.C
	}
	return m.operate(i.Op, s, m.r(i.B), m.r(y))
}

func (m *twin) failed(e api.Errno) *problem {
	if e == api.OK {
		return nil
	}
	return m.errno(e)
}

// either calls the handler of the first one that has it.
func (m *twin) either(w want, name string, x, y api.Value) *problem {
	h := m.has(x, name)
	if h.T == api.TNil {
		h = m.has(y, name)
	}
	if h.T == api.TNil {
		return m.errno(api.ErrType)
	}
	return m.handler(w, h, x, y)
}

// operate delivers what a sign makes of values to a register.
func (m *twin) operate(op, r int, x, y api.Value) *problem {
	plain, truth := want{kind: "plain", r: r, n: 1}, want{kind: "truth", r: r}
	textual := func(v api.Value) bool { return v.T == api.TStr || num.Is(v) }
	switch op {
	case api.IConcat:
		if !textual(x) || !textual(y) {
			return m.either(plain, "__concat", x, y)
		}
		s := m.textOf(x) + m.textOf(y)
		if len(s) > api.MaxText {
			return m.errno(api.ErrLong)
		}
		m.put(r, m.str(s))
	case api.IEq:
		if is := m.alike(x, y); is || x.T != api.TTable || y.T != api.TTable || m.has(x, "__eq").T == api.TNil && m.has(y, "__eq").T == api.TNil {
			m.put(r, boolean(is))
			return nil
		}
		return m.either(truth, "__eq", x, y)
	case api.ILt, api.ILe:
		c, is := 0, true
		switch {
		case num.Is(x) && num.Is(y):
			c, is = num.Cmp(x, y)
		case x.T == api.TStr && y.T == api.TStr:
			c = strings.Compare(m.at(x).text, m.at(y).text)
		default:
			return m.either(truth, []string{"__lt", "__le"}[op-api.ILt], x, y)
		}
		m.put(r, boolean(is && (c < 0 || c == 0 && op == api.ILe)))
	case api.ILen:
		if h := m.has(x, "__len"); h.T != api.TNil {
			return m.handler(plain, h, x)
		}
		return m.length(plain, x)
	default:
		return m.reckon(op, plain, x, y)
	}
	return nil
}

func (m *twin) reckon(op int, w want, x, y api.Value) *problem {
	v, e, name := api.Value{}, api.OK, "__unm"
	if op == api.INeg {
		v, e = num.Neg(x)
	} else {
		n := op - api.IAdd
		v, e = num.Op([]int{num.Add, num.Sub, num.Mul, num.Div, num.IDiv, num.Mod}[n], x, y)
		name = []string{"__add", "__sub", "__mul", "__div", "__idiv", "__mod"}[n]
	}
	switch e {
	case api.OK:
		m.deliver(w, v)
		return nil
	case api.ErrType:
		return m.either(w, name, x, y)
	}
	return m.errno(e)
}

func (m *twin) index(w want, t, k api.Value) *problem {
	for range api.MaxChain {
		if t.T != api.TTable {
			return m.errno(api.ErrType)
		}
		v, h := m.get(t, k), m.has(t, "__index")
		if v.T != api.TNil || h.T == api.TNil {
			m.deliver(w, v)
			return nil
		}
		if h.T != api.TTable {
			return m.handler(w, h, t, k)
		}
		t = h
	}
	return m.errno(api.ErrDeep)
}

func (m *twin) setIndex(t, k, x api.Value) *problem {
	for range api.MaxChain {
		if t.T != api.TTable {
			return m.errno(api.ErrType)
		}
		h := m.has(t, "__newindex")
		if h.T == api.TNil || m.get(t, k).T != api.TNil {
			return m.failed(m.set(t, k, x))
		}
		if h.T != api.TTable {
			return m.handler(want{kind: "drop"}, h, t, k, x)
		}
		t = h
	}
	return m.errno(api.ErrDeep)
}

func (m *twin) loop(f *twinFun, i api.Ins) *problem {
	n, bound, step := m.r(i.A), m.r(i.A+1), m.r(i.A+2)
	below := func(a, b api.Value) bool { c, is := num.Cmp(a, b); return is && c < 0 }
	isNaN := func(v api.Value) bool { _, is := num.Cmp(v, v); return !is }
	down := below(step, num.Int(0))
	beyond := func(v api.Value) bool {
		return isNaN(v) || isNaN(bound) || !down && below(bound, v) || down && below(v, bound)
	}
	if i.Op == api.IForPrep {
		switch {
		case !num.Is(n) || !num.Is(bound) || !num.Is(step):
			return m.errno(api.ErrType)
		case m.alike(step, num.Int(0)):
			return m.errno(api.ErrZero)
		case beyond(n):
			f.next = i.B
		default:
			m.put(f.base+i.A+3, n)
		}
		return nil
	}
	next, e := num.Op(num.Add, n, step)
	if e != api.OK {
		return m.errno(e)
	}
	if (down && below(next, n) || below(num.Int(0), step) && below(n, next)) && !beyond(next) {
		m.put(f.base+i.A, next)
		m.put(f.base+i.A+3, next)
		f.next = i.B
	}
	return nil
}
