package vm_test

import (
	"slices"
	"strconv"
	"strings"

	"heirloom/api"
	"heirloom/num"
	"heirloom/reach"
	"heirloom/table"
	"heirloom/text"
)

// A model says the chapter word by word, over objects that are no cells: they have numbers that are never used again, and as much room as they like. What is thrown is told by what a call answers. It knows collections of everything at once alone.
type model struct {
	p       api.Program
	objects map[int64]*thingy
	texts   map[string]api.Value
	last    int64
	serials int
	marks   int
	pending []int64
	kept    []api.Value
	names   map[string]api.Value
	protos  []api.Value
	globals api.Value
	cos     map[int64]*modelCo
	first   *modelCo
	runs    *modelCo
	dropper *modelCo // in which a finaliser runs
	points  []api.Point
	mode    int
	thrown  bool // by the instruction that is done
	verdict int
	over    bool
	lines   []string
	failure string
	most    int // registers of a coroutine at the most
}

// thingy is an object: of a table the slots are those of its array and nodes.
type thingy struct {
	kind, serial, weak, fin int
	meta                    api.Value
	array, nodes            int
	slots                   []api.Value
	text                    string
}

type modelCo struct {
	thread  api.Value
	running []*modelFun
	state   string
	fresh   bool
	by      *modelCo
	resumed modelWant
	yielded modelWant
}

type modelFun struct {
	number, base, next int
	want               modelWant
}

// modelWant: kind is the chapter's word.
type modelWant struct {
	kind        string
	trues, r, n int
}

// problem is what was thrown: a value.
type problem struct{ v api.Value }

func newModel(p api.Program, points []api.Point) *model {
	m := &model{p: p, objects: map[int64]*thingy{}, texts: map[string]api.Value{}, names: map[string]api.Value{}, cos: map[int64]*modelCo{}, points: points}
	for _, s := range eventNames {
		m.names[s] = m.str(s)
		m.kept = append(m.kept, m.names[s])
	}
	for i, f := range p.Protos {
		o := &thingy{kind: api.TProto, serial: m.serials, array: i}
		for _, c := range f.Consts {
			v := c.V
			if v.T == api.TStr {
				v = m.str(c.S)
			}
			o.slots = append(o.slots, v)
		}
		m.protos = append(m.protos, m.add(o))
	}
	m.globals = m.add(&thingy{kind: api.TTable})
	m.kept = append(append(m.kept, m.protos...), m.globals)
	for i, s := range nativeNames {
		table.Set(modelStore{m, m.globals}, m.str(s), leading(api.TNative, i))
	}
	m.first = &modelCo{thread: m.add(&thingy{kind: api.TThread, slots: make([]api.Value, 1)}), state: "running"}
	m.cos[m.first.thread.N] = m.first
	m.runs = m.first
	m.put(0, m.add(&thingy{kind: api.TFunc, slots: []api.Value{m.protos[0]}}))
	m.call(0, 0, modelWant{kind: "over"})
	return m
}

func (m *model) add(o *thingy) api.Value {
	m.last++
	if o.kind != api.TStr {
		o.serial = m.serials
		m.serials++
	}
	m.objects[m.last] = o
	return api.Value{T: o.kind, N: m.last}
}

func (m *model) str(s string) api.Value {
	v, is := m.texts[s]
	if !is {
		v = m.add(&thingy{kind: api.TStr, text: s})
		m.texts[s] = v
	}
	return v
}

func (m *model) at(v api.Value) *thingy { return m.objects[v.N] }

// modelStore is a table's slots.
type modelStore struct {
	m *model
	v api.Value
}

func (s modelStore) Array() int                 { return s.m.at(s.v).array }
func (s modelStore) Nodes() int                 { return s.m.at(s.v).nodes }
func (s modelStore) Slot(i int) api.Value       { return s.m.at(s.v).slots[i] }
func (s modelStore) SetSlot(i int, v api.Value) { s.m.at(s.v).slots[i] = v }
func (s modelStore) Resize(a, n int) api.Errno {
	if 1+a+2*n > api.MaxParts {
		return api.ErrMany
	}
	o := s.m.at(s.v)
	o.array, o.nodes, o.slots = a, n, make([]api.Value, a+2*n)
	return api.OK
}
func (s modelStore) Hash(v api.Value) uint32 {
	switch {
	case v.T == api.TStr:
		return text.Hash(s.m.at(v).text)
	case v.T > api.TStr && v.T <= api.TProto:
		return text.Mix(v.T, int64(s.m.at(v).serial))
	}
	return text.Mix(v.T, v.N)
}

// Registers.

func (m *model) regs() *thingy          { return m.at(m.runs.thread) }
func (m *model) reg(i int) api.Value    { return m.regs().slots[i] }
func (m *model) put(i int, v api.Value) { m.regs().slots[i] = v }
func (m *model) fun() *modelFun {
	if n := len(m.runs.running); n > 0 {
		return m.runs.running[n-1]
	}
	return nil
}
func (m *model) r(i int) api.Value { return m.reg(m.fun().base + i) }

func (m *model) have(n int) *problem {
	if n > api.MaxParts {
		return m.errno(api.ErrDeep)
	}
	for len(m.regs().slots) < n {
		m.regs().slots = append(m.regs().slots, api.Value{})
	}
	m.most = max(m.most, n)
	return nil
}

func (m *model) errno(e api.Errno) *problem { return &problem{m.str(e.Error())} }

func truthy(v api.Value) bool {
	return v != api.Value{} && v != api.Value{T: api.TBool}
}

func boolean(is bool) api.Value {
	if is {
		return api.Value{T: api.TBool, N: 1}
	}
	return api.Value{T: api.TBool}
}

func (m *model) alike(a, b api.Value) bool {
	if num.Is(a) && num.Is(b) {
		c, is := num.Cmp(a, b)
		return is && c == 0
	}
	return a == b
}

func (m *model) metatable(v api.Value) api.Value {
	if v.T != api.TTable {
		return api.Value{}
	}
	return m.at(v).meta
}

func (m *model) has(v api.Value, name string) api.Value {
	if t := m.metatable(v); t.T == api.TTable {
		return table.Get(modelStore{m, t}, m.names[name])
	}
	return api.Value{}
}

func (m *model) typeOf(v api.Value) string {
	return []string{"nil", "boolean", "number", "number", "string", "table", "function", "box", "thread", "prototype", "function"}[v.T]
}

func (m *model) textOf(v api.Value) string {
	switch v.T {
	case api.TNil:
		return "nil"
	case api.TBool:
		return []string{"false", "true"}[v.N]
	case api.TInt, api.TFloat:
		return num.Text(v)
	case api.TStr:
		return m.at(v).text
	case api.TNative:
		return "native " + strconv.Itoa(int(v.N))
	}
	return m.typeOf(v) + " " + strconv.Itoa(m.at(v).serial)
}

// Answers.

func (m *model) deliver(w modelWant, l ...api.Value) {
	for range w.trues {
		l = append([]api.Value{boolean(true)}, l...)
	}
	get := func(i int) api.Value {
		if i < len(l) {
			return l[i]
		}
		return api.Value{}
	}
	switch w.kind {
	case "plain":
		for i := 0; i < w.n; i++ {
			m.put(w.r+i, get(i))
		}
	case "truth":
		m.put(w.r, boolean(truthy(get(0))))
	case "back":
		f := m.fun()
		m.leave()
		m.deliver(f.want, l...)
	case "final":
		m.dropper = nil
	case "into":
		m.runs.state = "dead"
		m.wake(append([]api.Value{boolean(true)}, l...))
	case "over":
		m.theEnd(api.Done)
	}
}

// wake is that who resumed the one that runs runs.
func (m *model) wake(l []api.Value) {
	c := m.runs
	m.runs = c.by
	c.by = nil
	m.runs.state = "running"
	m.deliver(c.resumed, l...)
}

func (m *model) leave() {
	f := m.fun()
	for i := range m.p.Protos[f.number].Regs {
		m.put(f.base+i, api.Value{})
	}
	m.runs.running = m.runs.running[:len(m.runs.running)-1]
}

func (m *model) theEnd(verdict int) {
	m.verdict = verdict
	m.first.running = nil
	clear(m.at(m.first.thread).slots)
	m.runs = m.first
	m.major()
}

// unwind lets what was thrown come to the functions of the coroutine that runs.
func (m *model) unwind(e *problem) {
	m.thrown = true
	for f := m.fun(); f != nil; f = m.fun() {
		m.leave()
		if m.stops(f.want, e) {
			return
		}
	}
	if m.runs != m.first {
		m.runs.state = "dead"
		m.wake([]api.Value{boolean(false), e.v})
		return
	}
	m.failure = m.textOf(e.v)
	m.theEnd(api.Failed)
}

func (m *model) stops(w modelWant, e *problem) bool {
	if w.trues > 0 {
		w.trues--
		m.deliver(w, boolean(false), e.v)
		return true
	}
	if w.kind == "final" {
		m.dropper = nil
		return true
	}
	return false
}

// Calls.

// call: what is thrown while it is under way may stop at its own want.
func (m *model) call(s, n int, w modelWant) *problem {
	e := m.tryCall(s, n, w)
	if e != nil {
		m.thrown = true
		if m.stops(w, e) {
			return nil
		}
	}
	return e
}

func (m *model) tryCall(s, n int, w modelWant) *problem {
	for times := 1; ; times++ {
		v := m.reg(s)
		if v.T == api.TFunc {
			return m.run(s, n, w)
		}
		if v.T == api.TNative {
			return m.native(int(v.N), s, n, w)
		}
		h := m.has(v, "__call")
		if h.T == api.TNil {
			return m.errno(api.ErrType)
		}
		if times == api.MaxChain+1 {
			return m.errno(api.ErrDeep)
		}
		if e := m.have(s + n + 2); e != nil {
			return e
		}
		for i := s + n + 1; i > s; i-- {
			m.put(i, m.reg(i-1))
		}
		m.put(s, h)
		n++
	}
}

func (m *model) run(s, n int, w modelWant) *problem {
	if len(m.runs.running) >= api.MaxFrames {
		return m.errno(api.ErrDeep)
	}
	number := m.at(m.at(m.reg(s)).slots[0]).array
	f := m.p.Protos[number]
	count := f.Regs
	if n > count {
		count = n
	}
	if e := m.have(s + 1 + count); e != nil {
		return e
	}
	for i := range count {
		if i >= n || i >= f.Params {
			m.put(s+1+i, api.Value{})
		}
	}
	m.runs.running = append(m.runs.running, &modelFun{number: number, base: s + 1, want: w})
	return nil
}

func (m *model) free() int {
	if f := m.fun(); f != nil {
		return f.base + m.p.Protos[f.number].Regs
	}
	return 0
}

func (m *model) handler(w modelWant, l ...api.Value) *problem {
	s := m.free()
	if e := m.have(s + len(l)); e != nil {
		m.thrown = true
		if m.stops(w, e) {
			return nil
		}
		return e
	}
	for i, v := range l {
		m.put(s+i, v)
	}
	return m.call(s, len(l)-1, w)
}

// Collecting.

func (m *model) roots() []api.Value {
	var l []api.Value
	for c := m.runs; c != nil; c = c.by {
		l = append(l, c.thread)
	}
	return append(l, m.kept...)
}

func (m *model) major() {
	var order []int64
	for n := range m.objects {
		order = append(order, n)
	}
	slices.Sort(order)
	place := map[int64]int64{}
	for i, n := range order {
		place[n] = int64(i + 1)
	}
	other := func(l []api.Value) []api.Value {
		l = slices.Clone(l)
		for i, v := range l {
			if v.T >= api.TStr && v.T <= api.TProto {
				l[i].N = place[v.N]
			}
		}
		return l
	}
	var g api.Graph
	for _, n := range order {
		o := m.objects[n]
		t := api.Thing{Kind: o.kind, Weak: o.weak, Slots: other(o.slots), Fin: o.fin}
		if o.kind == api.TTable {
			t.Slots, t.Array = append(other([]api.Value{o.meta}), t.Slots...), o.array
		}
		g.Things = append(g.Things, t)
	}
	g.Roots = other(m.roots())
	for _, n := range m.pending {
		g.Roots = append(g.Roots, api.Value{T: api.TTable, N: place[n]})
	}
	found := reach.Collect(g)
	for _, h := range found.Pending {
		m.pending = append(m.pending, order[h-1])
		m.objects[order[h-1]].fin = 0
	}
	for _, c := range found.Cleared {
		o := m.objects[order[c.H-1]]
		at := c.Slot - 1
		o.slots[at] = api.Value{}
		if at >= o.array {
			if k := o.slots[at-1]; k.T >= api.TStr && k.T <= api.TProto && !found.Live[place[k.N]-1] {
				o.slots[at-1].T = api.TDead
			}
		}
	}
	for i, live := range found.Live {
		if !live {
			o := m.objects[order[i]]
			if o.kind == api.TStr {
				delete(m.texts, o.text)
			}
			delete(m.objects, order[i])
			delete(m.cos, order[i])
		}
	}
}

// take is the first object that is pending.
func (m *model) finalise() *problem {
	n := m.pending[0]
	m.pending = m.pending[1:]
	v := api.Value{T: api.TTable, N: n}
	m.dropper = m.runs
	return m.handler(modelWant{kind: "final"}, m.has(v, "__gc"), v)
}

// behind is what comes behind an instruction that may collect.
func (m *model) behind() *problem {
	if len(m.points) > 0 {
		p := m.points[0]
		m.points = m.points[1:]
		switch {
		case p.Kind == api.PointMajor:
			m.major()
		case p.Kind == api.PointMode && p.N == 1-m.mode:
			m.mode = p.N
			if p.N == api.ModeGen {
				m.major()
			}
		}
	}
	if m.dropper == nil && len(m.pending) > 0 {
		return m.finalise()
	}
	return nil
}

// step does an instruction.
func (m *model) step() {
	f := m.fun()
	i := m.p.Protos[f.number].Code[f.next]
	f.next++
	m.thrown = false
	if e := m.do(f, i); e != nil {
		m.unwind(e)
	}
	if !m.thrown && m.fun() != nil && strings.Contains(" 7 12 13 22 34 35 ", " "+strconv.Itoa(i.Op)+" ") {
		if e := m.behind(); e != nil {
			m.unwind(e)
		}
	}
	for m.verdict != api.Runs && m.fun() == nil && !m.over {
		if len(m.pending) == 0 {
			m.over = true
		} else if e := m.finalise(); e != nil {
			m.unwind(e)
		}
	}
}

func (m *model) play(n int) int {
	for i := range n {
		if m.over {
			return i
		}
		m.step()
	}
	return n
}
