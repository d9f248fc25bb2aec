package run_test

import (
	"slices"
	"strings"

	"heirloom/api"
	"heirloom/num"
	"heirloom/table"
)

// call calls what lies in a register: what is thrown while it is under way may stop at its own want.
func (m *twin) call(s, n int, w want) *problem {
	e := m.tryCall(s, n, w)
	if e == nil {
		return nil
	}
	m.thrown = true
	if m.stops(w, e) {
		return nil
	}
	return e
}

func (m *twin) tryCall(s, n int, w want) *problem {
	for times := 1; ; times++ {
		v := m.reg(s)
		if v.T == api.TFunc {
			return m.run(s, n, w)
		}
		if v.T == api.TNative {
			return m.native(int(v.N), s, n, w)
		}
		h := m.has(v, "__call")
		if h.T == api.TNil {
			return m.errno(api.ErrType)
		}
		if times > api.MaxChain {
			return m.errno(api.ErrDeep)
		}
		if e := m.have(s+n+2, h); e != nil {
			return e
		}
		for i := s + n + 1; i > s; i-- {
			m.put(i, m.reg(i-1))
		}
		m.put(s, h)
		n++
	}
}

func (m *twin) run(s, n int, w want) *problem {
	if len(m.runs.running) >= api.MaxFrames {
		return m.errno(api.ErrDeep)
	}
	number := m.at(m.at(m.reg(s)).slots[0]).array
	f := m.p.Protos[number]
	count := max(f.Regs, n)
	if e := m.have(s + 1 + count); e != nil {
		return e
	}
	for i := min(n, f.Params); i < count; i++ {
		m.put(s+1+i, api.Value{})
	}
	m.runs.running = append(m.runs.running, &twinFun{number: number, base: s + 1, want: w})
	return nil
}

// handler is called behind the registers of the function that runs.
func (m *twin) handler(w want, l ...api.Value) *problem {
	s := 0
	if f := m.fun(); f != nil {
		s = f.base + m.p.Protos[f.number].Regs
	}
	if e := m.have(s+len(l), l...); e != nil {
		m.thrown = true
		if m.stops(w, e) {
			return nil
		}
		return e
	}
	for i, v := range l {
		m.put(s+i, v)
	}
	return m.call(s, len(l)-1, w)
}

// native is the chapter's table of native functions.
func (m *twin) native(number, s, n int, w want) *problem {
	l := slices.Clone(m.regs()[s+1 : s+1+n])
	args := l[:n:n]
	for len(l) < 3 {
		l = append(l, api.Value{})
	}
	x, name := l[0], nativeNames[number]
	answer := func(l ...api.Value) *problem { m.deliver(w, l...); return nil }
	if x.T != api.TTable && slices.Contains([]string{"setmeta", "rawget", "rawset", "next"}, name) || x.T != api.TThread && slices.Contains([]string{"resume", "status", "close"}, name) {
		return m.errno(api.ErrType)
	}
	switch name {
	case "emit":
		var texts []string
		for _, v := range args {
			texts = append(texts, m.textOf(v))
		}
		m.lines = append(m.lines, strings.Join(texts, " "))
		return answer()
	case "type":
		return answer(m.str(typeOf(x)))
	case "tostring":
		return answer(m.str(m.textOf(x)))
	case "setmeta":
		return m.askedMeta(x, l[1], answer)
	case "getmeta":
		return answer(m.metatable(x))
	case "rawget":
		return answer(m.get(x, l[1]))
	case "rawset":
		if e := m.set(x, l[1], l[2]); e != api.OK {
			return m.errno(e)
		}
		return answer(x)
	case "rawlen":
		return m.length(w, x)
	case "rawequal":
		return answer(boolean(m.alike(x, l[1])))
	case "next":
		k, v, e := table.Next(m.rows(x), l[1])
		if e != api.OK {
			return m.errno(e)
		}
		return answer(k, v)
	case "pcall":
		if n == 0 {
			return m.errno(api.ErrType)
		}
		w.trues++
		return m.call(s+1, n-1, w)
	case "error":
		return &problem{x}
	case "collect":
		m.c.Major()
		return answer()
	}
	return m.coroutines(name, x, args, w)
}

func (m *twin) askedMeta(t, meta api.Value, answer func(l ...api.Value) *problem) *problem {
	if meta.T != api.TNil && meta.T != api.TTable {
		return m.errno(api.ErrType)
	}
	weak := api.WeakNone
	if meta.T == api.TTable {
		if mode := m.get(meta, m.names["__mode"]); mode.T == api.TStr {
			if strings.Contains(m.at(mode).text, "k") {
				weak += api.WeakKeys
			}
			if strings.Contains(m.at(mode).text, "v") {
				weak += api.WeakValues
			}
		}
	}
	m.setMeta(t, meta, weak)
	if m.has(t, "__gc").T != api.TNil {
		m.mark(t)
	}
	return answer(t)
}

func (m *twin) length(w want, x api.Value) *problem {
	switch x.T {
	case api.TStr:
		m.deliver(w, num.Int(int64(len(m.at(x).text))))
	case api.TTable:
		m.deliver(w, num.Int(int64(table.Len(m.rows(x)))))
	default:
		return m.errno(api.ErrType)
	}
	return nil
}

func (m *twin) coroutines(name string, x api.Value, args []api.Value, w want) *problem {
	switch name {
	case "create":
		if x.T != api.TFunc {
			return m.errno(api.ErrType)
		}
		c := &twinCo{state: "suspended", fresh: true, thread: m.object(api.TThread, api.Value{})}
		m.setSlot(c.thread, 0, x)
		m.cos[int(c.thread.N)] = c
		m.deliver(w, c.thread)
	case "status":
		m.deliver(w, m.str(m.cos[int(x.N)].state))
	case "yield":
		if m.runs == m.first || m.dropper == m.runs {
			return m.errno(api.ErrState)
		}
		m.runs.state, m.runs.yielded = "suspended", w
		m.wake(append([]api.Value{boolean(true)}, args...))
	case "close":
		c := m.cos[int(x.N)]
		if c.state == "running" || c.state == "normal" {
			return m.errno(api.ErrState)
		}
		c.state, c.running = "dead", nil
		clear(m.at(c.thread).slots)
		m.deliver(w, boolean(true))
	case "resume":
		return m.resume(m.cos[int(x.N)], args[1:], w)
	}
	return nil
}

func (m *twin) resume(c *twinCo, args []api.Value, w want) *problem {
	depth := 0
	for x := m.runs; x != nil; x = x.by {
		depth++
	}
	switch {
	case c.state != "suspended":
		m.deliver(w, boolean(false), m.str("error 9"))
		return nil
	case depth == api.MaxNest:
		m.deliver(w, boolean(false), m.str("error 14"))
		return nil
	}
	m.runs.state, c.state, c.by, c.resumed = "normal", "running", m.runs, w
	m.runs = c
	if !c.fresh {
		m.deliver(c.yielded, args...)
		return nil
	}
	c.fresh = false
	if e := m.have(len(args) + 1); e != nil {
		return e
	}
	for i, v := range args {
		m.put(1+i, v)
	}
	return m.call(0, len(args), want{kind: "into"})
}
