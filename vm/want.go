package vm

import (
	"slices"

	"heirloom/api"
)

// What is done with answers.
const (
	none  = iota // nothing is wanted: there is no call
	plain        // registers have them
	truth        // a register has whether the first one is true
	drop         // nothing
	back         // the function that runs returns them
	final        // the finaliser that runs has ended
	into         // the coroutine is dead, who resumed it has them
	over         // the program ends
)

// want says where answers go.
type want struct {
	kind  int
	trues int // so many true come ahead of them
	from  int // of plain and truth: a register of the coroutine
	n     int // of plain: how many registers
}

// to is that a register of the function that runs has one answer.
func (m *VM) to(register int) want { return want{kind: plain, from: m.top().base + register, n: 1} }

// toTruth is that it has whether that one is true.
func (m *VM) toTruth(register int) want { return want{kind: truth, from: m.top().base + register} }

// protecting is the same want, which protects once more.
func (w want) protecting() want {
	w.trues++
	return w
}

// stops: what was thrown goes no further.
func (w want) stops() bool { return w.trues > 0 || w.kind == final }

// stop delivers what was thrown, where it stops. An error in a finaliser is lost.
func (m *VM) stop(w want, v api.Value) {
	if w.trues == 0 {
		m.deliver(w)
		return
	}
	w.trues--
	m.deliver(w, truthOf(false), v)
}

// deliver is that answers come to where they are wanted.
func (m *VM) deliver(w want, l ...api.Value) {
	m.under = want{}
	l = slices.Concat(slices.Repeat([]api.Value{truthOf(true)}, w.trues), l)
	switch w.kind {
	case plain:
		for i := range w.n {
			m.setSlot(w.from+i, at(l, i))
		}
	case truth:
		m.setSlot(w.from, truthOf(isTrue(at(l, 0))))
	case back:
		m.giveBack(l...)
	case final:
		m.finaliser = nil
	case into:
		m.die(slices.Insert(l, 0, truthOf(true))...)
	case over:
		m.end(api.Done)
	}
}

// giveBack is that the function that runs returns answers.
func (m *VM) giveBack(l ...api.Value) {
	f := m.leave()
	m.deliver(f.want, l...)
}

// leave is that the function that runs leaves its coroutine.
func (m *VM) leave() function {
	f := *m.top()
	m.clearRow(f.base, m.behind())
	m.running.stack = m.running.stack[:len(m.running.stack)-1]
	return f
}

// behind is the first register behind those of the function that runs.
func (m *VM) behind() int {
	f := m.top()
	if f == nil {
		return 0
	}
	return f.base + m.functions[f.number].Regs
}

// at is one of some values; nil, if there are fewer.
func at(l []api.Value, i int) api.Value {
	if i >= len(l) {
		return api.Value{}
	}
	return l[i]
}
