package run_test

import (
	"slices"
	"strconv"

	"heirloom/api"
	"heirloom/code"
	"heirloom/num"
)

// A twin plays scenes: it says chapter 15 word by word, over a room. What is thrown is told by what a call answers.
type twin struct {
	*room
	p       api.Program
	kept    []api.Value
	names   map[string]api.Value
	protos  []api.Value
	globals api.Value
	cos     map[int]*twinCo
	first   *twinCo
	runs    *twinCo
	dropper *twinCo // in which a finaliser runs
	points  []api.Point
	thrown  bool // by the instruction that is done
	verdict int
	over    bool
	lines   []string
	failure string
}

type twinCo struct {
	thread  api.Value
	running []*twinFun
	state   string
	fresh   bool
	by      *twinCo
	resumed want
	yielded want
}

type twinFun struct {
	number, base, next int
	want               want
}

// A want's kind is the chapter's word.
type want struct {
	kind        string
	trues, r, n int
}

// problem is what was thrown: a value.
type problem struct{ v api.Value }

var nativeNames = []string{"emit", "type", "tostring", "setmeta", "getmeta", "rawget", "rawset", "rawlen", "rawequal", "next", "pcall", "error", "create", "resume", "yield", "status", "close", "collect"}

// told is what comes of a scene whose source compiles.
func told(x api.Scene) (t api.Trace) {
	p, _, _ := code.Compile(x.Source)
	m := &twin{room: newRoom(x.Size), p: p, names: map[string]api.Value{}, cos: map[int]*twinCo{}, points: x.Points}
	m.roots, m.dropped = m.held, func(h int) { delete(m.cos, h) }
	if !m.bears(m.begin) {
		return api.Trace{E: api.ErrFull}
	}
	for t.Steps < x.Steps && !m.over {
		t.Steps++
		if !m.bears(m.step) {
			m.verdict, m.over = api.Spent, true
		}
	}
	t.Verdict, t.Lines, t.Error, t.Made, t.Urgent = m.verdict, m.lines, m.failure, m.made, m.urgent
	return t
}

// bears tells whether there was room for what is done.
func (m *twin) bears(do func()) (is bool) {
	defer func() {
		if p := recover(); p != nil && p != (outOfRoom{}) {
			panic(p)
		}
	}()
	do()
	return true
}

func (m *twin) begin() {
	for _, s := range append(slices.Clone(events), "__gc", "__mode") {
		m.names[s] = m.str(s)
		m.kept = append(m.kept, m.names[s])
	}
	for i, f := range m.p.Protos {
		o := one{head: api.Head{Kind: api.TProto}, array: i}
		for _, c := range f.Consts {
			v := c.V
			if v.T == api.TStr {
				v = m.str(c.S)
				m.kept = append(m.kept, v)
			}
			o.slots = append(o.slots, v)
		}
		v := m.add(o, 3+2*len(o.slots))
		m.protos = append(m.protos, v)
		m.kept = append(m.kept[:len(events)+2], m.protos...)
	}
	m.globals = m.table()
	m.kept = append(m.kept, m.globals)
	for i, s := range nativeNames {
		v := m.str(s)
		m.kept = append(m.kept, v)
		m.set(m.globals, v, api.Value{T: api.TNative, N: int64(i)})
		m.kept = m.kept[:len(m.kept)-1]
	}
	m.first = &twinCo{state: "running", thread: m.object(api.TThread, api.Value{})}
	m.cos[int(m.first.thread.N)] = m.first
	m.runs = m.first
	m.put(0, m.object(api.TFunc, m.protos[0]))
	m.call(0, 0, want{kind: "over"})
}

func (m *twin) held() []api.Value {
	var l []api.Value
	for c := m.runs; c != nil; c = c.by {
		l = append(l, c.thread)
	}
	return append(l, m.kept...)
}

// Registers.

func (m *twin) regs() []api.Value      { return m.at(m.runs.thread).slots }
func (m *twin) reg(i int) api.Value    { return m.regs()[i] }
func (m *twin) put(i int, v api.Value) { m.setSlot(m.runs.thread, i, v) }
func (m *twin) r(i int) api.Value      { return m.reg(m.fun().base + i) }

func (m *twin) fun() *twinFun {
	if n := len(m.runs.running); n > 0 {
		return m.runs.running[n-1]
	}
	return nil
}

// have is that there are so many registers; what is to come into them is held meanwhile.
func (m *twin) have(n int, kept ...api.Value) *problem {
	if n > api.MaxParts {
		return m.errno(api.ErrDeep)
	}
	m.kept = append(m.kept, kept...)
	m.grow(m.runs.thread, n)
	m.kept = m.kept[:len(m.kept)-len(kept)]
	return nil
}

func (m *twin) errno(e api.Errno) *problem { return &problem{m.str(e.Error())} }

func truthy(v api.Value) bool { return v != api.Value{} && v != api.Value{T: api.TBool} }

func boolean(is bool) api.Value {
	if is {
		return api.Value{T: api.TBool, N: 1}
	}
	return api.Value{T: api.TBool}
}

func (m *twin) alike(a, b api.Value) bool {
	if num.Is(a) && num.Is(b) {
		c, is := num.Cmp(a, b)
		return is && c == 0
	}
	return a == b
}

func (m *twin) metatable(v api.Value) api.Value {
	if v.T != api.TTable {
		return api.Value{}
	}
	return m.at(v).slots[0]
}

func (m *twin) has(v api.Value, name string) api.Value {
	if t := m.metatable(v); t.T == api.TTable {
		return m.get(t, m.names[name])
	}
	return api.Value{}
}

func typeOf(v api.Value) string {
	return []string{"nil", "boolean", "number", "number", "string", "table", "function", "box", "thread", "prototype", "function"}[v.T]
}

func (m *twin) textOf(v api.Value) string {
	switch v.T {
	case api.TNil:
		return "nil"
	case api.TBool:
		return []string{"false", "true"}[v.N]
	case api.TInt, api.TFloat:
		return num.Text(v)
	case api.TStr:
		return m.at(v).text
	case api.TNative:
		return "native " + strconv.Itoa(int(v.N))
	}
	return typeOf(v) + " " + strconv.Itoa(m.at(v).head.Serial)
}

// Answers.

func (m *twin) deliver(w want, l ...api.Value) {
	l = append(slices.Repeat([]api.Value{boolean(true)}, w.trues), l...)
	get := func(i int) api.Value {
		if i < len(l) {
			return l[i]
		}
		return api.Value{}
	}
	switch w.kind {
	case "plain":
		for i := range w.n {
			m.put(w.r+i, get(i))
		}
	case "truth":
		m.put(w.r, boolean(truthy(get(0))))
	case "back":
		f := m.fun()
		m.leave()
		m.deliver(f.want, l...)
	case "final":
		m.dropper = nil
	case "into":
		m.runs.state = "dead"
		m.wake(append([]api.Value{boolean(true)}, l...))
	case "over":
		m.theEnd(api.Done)
	}
}

// wake is that who resumed the one that runs runs.
func (m *twin) wake(l []api.Value) {
	c := m.runs
	m.runs = c.by
	c.by = nil
	m.runs.state = "running"
	m.deliver(c.resumed, l...)
}

func (m *twin) leave() {
	f := m.fun()
	for i := range m.p.Protos[f.number].Regs {
		m.put(f.base+i, api.Value{})
	}
	m.runs.running = m.runs.running[:len(m.runs.running)-1]
}

func (m *twin) theEnd(verdict int) {
	m.verdict = verdict
	m.first.running = nil
	m.runs = m.first
	clear(m.regs())
	m.c.Major()
}

// unwind lets what was thrown come to the functions of the coroutine that runs.
func (m *twin) unwind(e *problem) {
	m.thrown = true
	for f := m.fun(); f != nil; f = m.fun() {
		m.leave()
		if m.stops(f.want, e) {
			return
		}
	}
	if m.runs != m.first {
		m.runs.state = "dead"
		m.wake([]api.Value{boolean(false), e.v})
		return
	}
	m.failure = m.textOf(e.v)
	m.theEnd(api.Failed)
}

func (m *twin) stops(w want, e *problem) bool {
	if w.trues > 0 {
		w.trues--
		m.deliver(w, boolean(false), e.v)
		return true
	}
	if w.kind == "final" {
		m.dropper = nil
		return true
	}
	return false
}

// finalise calls the finaliser of what is taken.
func (m *twin) finalise(h int) *problem {
	v := api.Value{T: api.TTable, N: int64(h)}
	m.dropper = m.runs
	return m.handler(want{kind: "final"}, m.has(v, "__gc"), v)
}

// behind is what comes behind an instruction that may collect.
func (m *twin) behind() *problem {
	if len(m.points) > 0 {
		p := m.points[0]
		m.points = m.points[1:]
		switch p.Kind {
		case api.PointStep:
			m.c.Step(p.N)
		case api.PointYoung:
			m.c.Young()
		case api.PointMajor:
			m.c.Major()
		case api.PointMode:
			m.c.SetMode(p.N)
		case api.PointCompact:
			m.a.Compact()
		}
	}
	if m.dropper == nil {
		if h, is := m.c.Take(); is {
			return m.finalise(h)
		}
	}
	return nil
}

// step does an instruction, and what comes behind the end.
func (m *twin) step() {
	f := m.fun()
	i := m.p.Protos[f.number].Code[f.next]
	f.next++
	m.thrown = false
	if e := m.do(f, i); e != nil {
		m.unwind(e)
	}
	points := []int{api.INewBox, api.IClosure, api.ITable, api.IConcat, api.ICall, api.ITailCall}
	if !m.thrown && m.fun() != nil && slices.Contains(points, i.Op) {
		if e := m.behind(); e != nil {
			m.unwind(e)
		}
	}
	for m.verdict != api.Runs && m.fun() == nil && !m.over {
		h, is := m.c.Take()
		if !is {
			m.over = true
		} else if e := m.finalise(h); e != nil {
			m.unwind(e)
		}
	}
}
