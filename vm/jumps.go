package vm

import (
	"heirloom/api"
	"heirloom/num"
)

// goTo is that another instruction comes next.
func (m *VM) goTo(next int) { m.top().next = next }

func (m *VM) jump(i api.Ins) {
	if i.Op == api.IJump {
		m.goTo(i.A)
		return
	}
	if isTrue(m.r(i.A)) == (i.Op == api.IJumpIf) {
		m.goTo(i.B)
	}
}

// A loop's registers are four: where it is, its bound, its step, and what its body sees.
const (
	loopBound = 1
	loopStep  = 2
	loopSeen  = 3
)

func (m *VM) forPrep(a, end int) {
	n, bound, step := m.r(a), m.r(a+loopBound), m.r(a+loopStep)
	switch {
	case !num.Is(n) || !num.Is(bound) || !num.Is(step):
		panic(api.ErrType)
	case same(step, num.Int(0)):
		panic(api.ErrZero)
	case beyond(n, bound, step):
		m.goTo(end)
	default:
		m.set(a+loopSeen, n)
	}
}

func (m *VM) forLoop(a, body int) {
	was, step := m.r(a), m.r(a+loopStep)
	n, err := num.Op(num.Add, was, step)
	m.check(err)
	if !ahead(was, n, step) || beyond(n, m.r(a+loopBound), step) {
		return
	}
	m.set(a, n)
	m.set(a+loopSeen, n)
	m.goTo(body)
}

// side is on which side of 0 a step is.
func side(step api.Value) int {
	c, _ := num.Cmp(step, num.Int(0))
	return c
}

// beyond: a loop does not go on with n. Of a NaN it never does.
func beyond(n, bound, step api.Value) bool {
	c, is := num.Cmp(n, bound)
	if side(step) < 0 {
		c = -c
	}
	return !is || c > 0
}

// ahead: n is on the step's side of where a loop was. It is not, if the sum went round, or was too small to be seen.
func ahead(was, n, step api.Value) bool {
	c, is := num.Cmp(n, was)
	return is && c != 0 && c == side(step)
}
