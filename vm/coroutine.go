package vm

import (
	"maps"

	"heirloom/api"
)

// How a coroutine stands.
const (
	suspended = iota
	running
	normal // it has resumed another one
	dead
)

var statusNames = [...]string{suspended: "suspended", running: "running", normal: "normal", dead: "dead"}

// coroutine is a thread, whose slots are its registers, and functions that run.
type coroutine struct {
	thread  api.Value
	stack   []function // the last one is on top
	status  int
	begun   bool       // it was resumed once
	resumer *coroutine // who resumed it, if it runs, or is normal
	resumed want       // of that resume
	yielded want       // of its yield, if it is suspended, and was begun
}

// function is one that runs.
type function struct {
	want
	number int // of its prototype
	base   int // its registers are the coroutine's from there on; its closure lies in the one ahead
	next   int // its next instruction
}

// top is the function that runs; nil: there is none.
func (m *VM) top() *function {
	l := m.running.stack
	if len(l) == 0 {
		return nil
	}
	return &l[len(l)-1]
}

// turnTo is that another coroutine runs: it and those that wait for it are the roots.
func (m *VM) turnTo(c *coroutine) {
	c.status = running
	m.running = c
	var roots []api.Value
	for ; c != nil; c = c.resumer {
		roots = append(roots, c.thread)
	}
	m.heap.SetRoots(roots...)
}

// depth is how many coroutines run, or are normal.
func (m *VM) depth() int {
	n := 0
	for c := m.running; c != nil; c = c.resumer {
		n++
	}
	return n
}

// turnBack is that who resumed the one that runs runs, and has answers of its resume.
func (m *VM) turnBack(l ...api.Value) {
	c := m.running
	resumer := c.resumer
	c.resumer = nil
	m.turnTo(resumer)
	m.deliver(c.resumed, l...)
}

// die is that the coroutine that runs is dead.
func (m *VM) die(l ...api.Value) {
	m.running.status = dead
	m.turnBack(l...)
}

// newCoroutine makes one in which a function is called once it is resumed.
func (m *VM) newCoroutine(f api.Value) api.Value {
	v, err := m.heap.Thread(1)
	m.check(err)
	m.check(m.heap.SetSlot(v, 0, f))
	m.forget()
	m.coroutines[int(v.N)] = &coroutine{thread: v}
	return v
}

// forget lets go of coroutines whose threads are gone. They are looked for when there are twice as many: each time would be too often.
func (m *VM) forget() {
	if len(m.coroutines) < m.many {
		return
	}
	maps.DeleteFunc(m.coroutines, func(_ int, c *coroutine) bool {
		_, err := m.heap.Slot(c.thread, 0)
		return err != api.OK
	})
	m.many = 2 * (len(m.coroutines) + 1)
}

// slot is a register of the coroutine that runs.
func (m *VM) slot(i int) api.Value {
	v, err := m.heap.Slot(m.running.thread, i)
	m.check(err)
	return v
}

func (m *VM) setSlot(i int, v api.Value) {
	m.check(m.heap.SetSlot(m.running.thread, i, v))
}

// row is what lies in n registers of it from one on.
func (m *VM) row(from, n int) []api.Value {
	l := make([]api.Value, n)
	for i := range l {
		l[i] = m.slot(from + i)
	}
	return l
}

// setRow puts values into registers of it from one on.
func (m *VM) setRow(from int, l ...api.Value) {
	for i, v := range l {
		m.setSlot(from+i, v)
	}
}

// clearRow is that registers of it, from one on up to another one, are nil.
func (m *VM) clearRow(from, end int) {
	for i := from; i < end; i++ {
		m.setSlot(i, api.Value{})
	}
}

// clearAll is that a coroutine has no functions, and all its registers are nil.
func (m *VM) clearAll(c *coroutine) {
	c.stack = nil
	o, _ := m.heap.Object(c.thread)
	for i := range o.Slots {
		m.check(m.heap.SetSlot(c.thread, i, api.Value{}))
	}
}

// have is that the coroutine that runs has n registers. What nothing holds yet is kept meanwhile.
func (m *VM) have(n int, kept ...api.Value) {
	if n > api.MaxParts {
		panic(api.ErrDeep)
	}
	m.heap.Keep(kept...)
	err := m.heap.Grow(m.running.thread, n)
	m.heap.Release(len(kept))
	m.check(err)
}
