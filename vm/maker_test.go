package vm_test

import (
	"fmt"
	"math/rand"
	"slices"
	"strings"
	"testing"

	"heirloom/api"
	"heirloom/code"
	"heirloom/num"
)

// maker writes sources that do all kinds of things; most of what goes wrong in them is caught.
type maker struct {
	r     *rand.Rand
	left  int  // behind so many parts more all is short
	plain bool // no metatables, no collecting
}

func (m *maker) n(n int) int                 { return m.r.Intn(n) }
func (m *maker) pick(l ...string) string     { return l[m.n(len(l))] }
func (m *maker) f(s string, l ...any) string { return fmt.Sprintf(s, l...) }

// source is a program: parts, each within pcall.
func (m *maker) source() string {
	var b strings.Builder
	b.WriteString("t1 = {} t2 = {1, 2, x = 3} t3 = {} n1 = 1 n2 = 2.5 s1 = \"a\" f1 = function(x, y) return y, x end f2 = type c1 = create(f1) c2 = create(function(x) while true do x = yield(x) end end) ")
	if !m.plain {
		b.WriteString("w1 = setmeta({}, {__mode = \"" + m.pick("k", "v", "kv") + "\"}) local function fin(x) return setmeta({x}, {__gc = function(o) emit(\"gone\", x, o[1]) end}) end fin(0) ")
	}
	for range 2 + m.n(7) {
		m.left = 25 + m.n(30)
		switch m.n(6) {
		case 0:
			b.WriteString(m.statement(0))
		case 1:
			b.WriteString("do local g = create(function(x, y) " + m.block(0) + " end) local ok, e = resume(g, 1, t1) emit(ok, e) ok, e = resume(g, n1) emit(ok, e, status(g)) end ")
		default:
			b.WriteString("do local ok, e = pcall(function(x, y) " + m.block(0) + " end, n1, t2) emit(ok, e) end ")
		}
	}
	return b.String()
}

func (m *maker) block(depth int) string {
	var l []string
	for range 1 + m.n(4) {
		l = append(l, m.statement(depth+1))
	}
	if m.n(3) == 0 {
		l = append(l, m.pick("return "+m.any(depth+1), "return "+m.call(depth+1), "return "+m.any(depth+1)+", "+m.any(depth+1), "return"))
	}
	return strings.Join(l, " ")
}

func (m *maker) short(depth int) bool {
	m.left--
	return m.left < 0 || depth > 6
}

func (m *maker) statement(depth int) string {
	if m.short(depth) {
		return m.pick("emit(x, n1)", "n1 = n1 + 1", "t1.x = n1", "local z = t2", "emit(t1.x, #t2, s1)")
	}
	d := depth + 1
	if !m.plain && m.n(6) == 0 {
		return m.pick("collect()", "t3 = fin("+m.num(d)+")", "fin(n1)", "w1["+m.any(d)+"] = "+m.any(d), "setmeta("+m.tab(d)+", "+m.meta(d)+")", "w1[{}] = {}", "w1[t1] = {} w1[1] = t2", "for k = 1, 3 do collect() end", "local k, v = next(w1) emit(k, v)")
	}
	switch m.n(20) {
	case 0:
		return "n" + m.pick("1", "2") + " = " + m.num(d)
	case 1:
		return "s1 = " + m.str(d)
	case 2:
		return m.pick("t1", "t2", "t3") + " = " + m.tab(d)
	case 3:
		return m.pick("f1", "f2") + " = " + m.fun(d)
	case 4:
		return m.pick("c1", "c2") + " = " + m.cor(d)
	case 5, 6:
		return "local " + m.pick("x", "y", "z") + " = " + m.any(d)
	case 7, 8:
		return m.pick("t1", "t2", "t3", m.tab(d)) + m.pick(".x", "["+m.any(d)+"]", "[n1]") + " = " + m.any(d)
	case 9, 10:
		return "emit(" + m.any(d) + ", " + m.any(d) + ")"
	case 11:
		return "local x, y, z = " + m.call(d) + " emit(x, y, z)"
	case 12:
		return "if " + m.any(d) + " then " + m.block(d) + " else " + m.block(d) + " end"
	case 13:
		return m.f("for i = %s, %s%s do %s end", m.pick("1", "3", "-2", m.num(d)), m.pick("2", "3", "1.5"), m.pick("", ", 1", ", -1", ", 0.5", ", "+m.num(d)), m.block(d)+m.pick("", "", " "))
	case 14:
		return "local i = 0 while i < " + m.pick("1", "2", "4") + " do i = i + 1 " + strings.TrimSuffix(m.statement(d), "return") + " end"
	case 15:
		return "error(" + m.any(d) + ")"
	case 16, 17:
		return m.pick("local x, y = yield("+m.any(d)+") emit(x, y)", "yield("+m.any(d)+")", "emit(pcall(close, "+m.cor(d)+"))", "emit(status("+m.cor(d)+"))")
	case 18:
		return "local k, v = next(t2) while k do emit(k, v) k, v = next(t2, k) end"
	}
	return "do local ok, e, g = " + m.pick("pcall(", "pcall(pcall, ") + m.fun(d) + ", " + m.any(d) + ") emit(ok, e, g) end"
}

func (m *maker) any(depth int) string {
	if m.short(depth) {
		return m.pick("x", "n1", "nil", "t1", "2", "s1", "true", "f1")
	}
	d := depth + 1
	switch m.n(14) {
	case 0, 1:
		return m.num(d)
	case 2:
		return m.str(d)
	case 3, 4:
		return m.tab(d)
	case 5:
		return m.fun(d)
	case 6:
		return m.cor(d)
	case 7:
		return m.pick("nil", "true", "false", "x", "y", "z")
	case 8:
		return m.tab(d) + m.pick(".x", ".y", "[1]", "["+m.any(d)+"]")
	case 9:
		return m.call(d)
	case 10:
		return "(" + m.any(d) + " " + m.pick("==", "~=", "==") + " " + m.any(d) + ")"
	case 11:
		return "(" + m.num(d) + " " + m.pick("<", "<=", ">", ">=") + " " + m.num(d) + ")"
	case 12:
		return "(" + m.any(d) + " " + m.pick("and", "or") + " " + m.any(d) + ")"
	}
	return "(not " + m.any(d) + ")"
}

func (m *maker) num(depth int) string {
	if m.short(depth) {
		return m.pick("n1", "n2", "1", "2", "0", "-3")
	}
	d := depth + 1
	switch m.n(7) {
	case 0, 1, 2:
		return "(" + m.num(d) + m.pick(" + ", " - ", " * ", " / ", " // ", " % ") + m.num(d) + ")"
	case 3:
		return "#" + m.pick("t1", "t2", "s1", "t3")
	case 4:
		return "(-" + m.num(d) + ")"
	case 5:
		if m.n(4) == 0 {
			return "(" + m.any(d) + m.pick(" + ", " < ", " <= ", " - ", " % ", " // ", " .. ") + m.any(d) + ")"
		}
	}
	return m.pick("n1", "n2", "7", "0", "1.5", "rawlen(t2)")
}

func (m *maker) str(depth int) string {
	if m.short(depth) {
		return m.pick("s1", "\"b\"")
	}
	d := depth + 1
	return m.pick("s1", "\"x\"", "("+m.str(d)+" .. "+m.str(d)+")", "(\"k\" .. "+m.num(d)+")", "type("+m.any(d)+")", "tostring("+m.any(d)+")")
}

func (m *maker) tab(depth int) string {
	if m.short(depth) {
		return m.pick("t1", "t2", "{}")
	}
	d := depth + 1
	switch m.n(6) {
	case 0:
		return "{" + m.any(d) + ", x = " + m.any(d) + "}"
	case 1:
		return "{}"
	case 2:
		if !m.plain {
			return "setmeta(" + m.tab(d) + ", " + m.meta(d) + ")"
		}
	}
	return m.pick("t1", "t2", "t3")
}

// meta is a metatable, with some of the names.
func (m *maker) meta(depth int) string {
	if m.short(depth) {
		return m.pick("{}", "{__index = t1}", "nil")
	}
	var l []string
	for range 1 + m.n(4) {
		name := eventNames[m.n(len(eventNames))]
		v := m.fun(depth + 1)
		switch {
		case name == "__mode":
			v = m.pick("\"k\"", "\"v\"", "\"kv\"", "\"\"")
		case m.n(4) == 0:
			v = m.tab(depth + 1)
		case m.n(6) == 0:
			v = m.any(depth + 1)
		}
		l = append(l, name+" = "+v)
	}
	return "{" + strings.Join(l, ", ") + "}"
}

func (m *maker) fun(depth int) string {
	if m.short(depth) {
		return m.pick("f1", "type", "emit")
	}
	switch m.n(5) {
	case 0, 1:
		return "function(" + m.pick("", "x", "x, y", "x, y, z") + ") " + m.block(depth+1) + " end"
	case 2:
		l := nativeNames
		if m.plain {
			l = []string{"emit", "type", "tostring", "getmeta", "rawget", "rawset", "rawlen", "rawequal", "next", "pcall", "error", "create", "resume", "yield", "status", "close"}
		}
		return l[m.n(len(l))]
	}
	return m.pick("f1", "f2")
}

func (m *maker) cor(depth int) string {
	if m.short(depth) || m.n(3) > 0 {
		return m.pick("c1", "c2")
	}
	return "create(" + m.fun(depth+1) + ")"
}

func (m *maker) call(depth int) string {
	d := depth + 1
	switch m.n(5) {
	case 0:
		return "resume(" + m.cor(d) + ", " + m.any(d) + ")"
	case 1:
		return m.pick("pcall(", "pcall(pcall, ") + m.fun(d) + ", " + m.any(d) + ")"
	case 2:
		return m.pick("t1", "t2", "t3") + "(" + m.any(d) + ")"
	}
	fun := m.fun(d)
	if strings.HasPrefix(fun, "function") {
		fun = "(" + fun + ")"
	}
	return fun + "(" + m.any(d) + ", " + m.any(d) + ")"
}

// made is a source that compiles.
func made(r *rand.Rand, plain bool) (string, api.Program) {
	for {
		m := &maker{r: r, plain: plain}
		src := m.source()
		if p, _, err := code.Compile(src); err == api.OK {
			return src, p
		}
	}
}

// madeByHand is a program whose instructions are any that are right, in functions that are called within pcall, or by a coroutine.
func madeByHand(r *rand.Rand) api.Program {
	kids := 2 + r.Intn(4)
	first := api.Proto{Regs: 8, Consts: []api.Const{letters("emit"), letters("pcall"), letters("create"), letters("resume"), number(num.Int(5))}}
	for i := range kids {
		first.Kids = append(first.Kids, i+1)
		n := 1 + r.Intn(2)
		how := 1
		if r.Intn(3) == 0 {
			how = 3
			first.Code = append(first.Code, api.Ins{Op: api.IGetGlobal, A: 6, B: 2}, api.Ins{Op: api.IClosure, A: 7, B: i}, api.Ins{Op: api.ICall, A: 6, B: 1, C: 1})
		} else {
			first.Code = append(first.Code, api.Ins{Op: api.IClosure, A: 6, B: i})
		}
		for range n {
			first.Code = append(first.Code, api.Ins{Op: api.IGetGlobal, A: 1, B: how}, api.Ins{Op: api.IMove, A: 2, B: 6}, api.Ins{Op: api.IConst, A: 3, B: 4}, api.Ins{Op: api.ITable, A: 4},
				api.Ins{Op: api.ICall, A: 1, B: 3, C: 4}, api.Ins{Op: api.IGetGlobal, A: 0, B: 0}, api.Ins{Op: api.ICall, A: 0, B: 4, C: 0}, api.Ins{Op: api.IClosure, A: 6, B: i})
			if how == 3 {
				first.Code = append(first.Code, api.Ins{Op: api.IGetGlobal, A: 7, B: 2}, api.Ins{Op: api.INil, A: 7})
			}
		}
	}
	first.Code = append(first.Code, end)
	l := []api.Proto{first}
	for i := range kids {
		l = append(l, anyProto(r, i+1, kids))
	}
	return by(l...)
}

// handMaker writes a function by hand.
type handMaker struct {
	*rand.Rand
	api.Proto
	texts, numbers int // where constants of either begin
}

func anyProto(r *rand.Rand, at, last int) api.Proto {
	m := &handMaker{Rand: r}
	m.Regs, m.Params = 4+r.Intn(6), r.Intn(4)
	for _, s := range nativeNames {
		m.Consts = append(m.Consts, letters(s))
	}
	m.texts = len(m.Consts)
	for _, s := range eventNames {
		m.Consts = append(m.Consts, letters(s))
	}
	m.numbers = len(m.Consts)
	m.Consts = append(m.Consts, number(num.Int(1)), number(num.Int(0)), number(num.Int(-2)), number(num.Float(2)), api.Const{})
	for k := at + 1; k <= last; k++ {
		m.Kids = append(m.Kids, k)
	}
	count := 5 + r.Intn(30)
	for len(m.Code) < count {
		if r.Intn(8) == 0 {
			m.anything(count)
		} else {
			m.something()
		}
	}
	m.Code = append(m.Code[:count], api.Ins{Op: api.IReturn, A: 0, B: 2})
	return m.Proto
}

func (m *handMaker) reg() int { return m.Intn(m.Regs) }

func (m *handMaker) tell(l ...api.Ins) { m.Code = append(m.Code, l...) }

// load puts something into a register.
func (m *handMaker) load(r int) {
	switch m.Intn(10) {
	case 0:
		m.tell(api.Ins{Op: api.ITable, A: r})
	case 1:
		m.tell(api.Ins{Op: api.IConst, A: r, B: m.Intn(len(m.Consts))})
	case 2:
		m.tell(api.Ins{Op: api.IGetGlobal, A: r, B: m.Intn(m.texts)})
	case 3:
		m.tell(api.Ins{Op: api.IMove, A: r, B: m.reg()})
	case 4:
		if len(m.Kids) > 0 {
			m.tell(api.Ins{Op: api.IClosure, A: r, B: m.Intn(len(m.Kids))})
		}
	case 5:
		m.tell(api.Ins{Op: api.IBool, A: r, B: m.Intn(2)})
	default:
		m.number(r)
	}
}

func (m *handMaker) number(r int) {
	m.tell(api.Ins{Op: api.IConst, A: r, B: m.numbers + m.Intn(4)})
}

// something is a few instructions that do something together.
func (m *handMaker) something() {
	a, b, c := m.reg(), m.reg(), m.reg()
	switch m.Intn(9) {
	case 0:
		m.number(b)
		m.number(c)
		m.tell(api.Ins{Op: api.IAdd + m.Intn(7), A: a, B: b, C: c})
	case 1:
		m.tell(api.Ins{Op: api.ITable, A: a})
		m.load(b)
		m.load(c)
		m.tell(api.Ins{Op: api.ISetIndex, A: a, B: b, C: c}, api.Ins{Op: api.IIndex, A: c, B: a, C: b})
	case 2, 3:
		m.called(min(a, m.Regs-3))
	case 4: // a metatable
		r := min(a, m.Regs-4)
		m.tell(api.Ins{Op: api.IGetGlobal, A: r, B: api.NatSetMeta}, api.Ins{Op: api.ITable, A: r + 1}, api.Ins{Op: api.ITable, A: r + 2}, api.Ins{Op: api.IConst, A: r + 3, B: m.texts + m.Intn(m.numbers-m.texts)})
		if b == r+2 || b == r+3 {
			b = r
		}
		m.tell(api.Ins{Op: api.ISetIndex, A: r + 2, B: r + 3, C: b}, api.Ins{Op: api.ICall, A: r, B: 2, C: 1 + m.Intn(2)})
	case 5:
		m.tell(api.Ins{Op: api.INewBox, A: a}, api.Ins{Op: api.IGetBox, A: b, B: a})
	case 6:
		m.load(b)
		m.tell(api.Ins{Op: []int{api.INot, api.INeg, api.ILen, api.IMove, api.IEq}[m.Intn(5)], A: a, B: b, C: c})
	case 7:
		m.number(b)
		m.number(c)
		m.tell(api.Ins{Op: api.IEq + m.Intn(3), A: a, B: b, C: c})
	default:
		m.load(a)
	}
}

// called is a call of a native function, or a kid, of some arguments.
func (m *handMaker) called(r int) {
	if len(m.Kids) > 0 && m.Intn(3) == 0 {
		m.tell(api.Ins{Op: api.IClosure, A: r, B: m.Intn(len(m.Kids))})
	} else {
		m.tell(api.Ins{Op: api.IGetGlobal, A: r, B: m.Intn(m.texts)})
	}
	if m.Intn(2) == 0 && r+1 < m.Regs {
		m.load(r + 1)
	}
	op := pick(m.Intn(12) == 0, api.ITailCall, api.ICall)
	m.tell(api.Ins{Op: op, A: r, B: m.Intn(m.Regs - r), C: m.Intn(m.Regs - r + 1)})
}

// anything is one instruction, with any numbers that are right.
func (m *handMaker) anything(count int) {
	i := api.Ins{Op: api.INil + m.Intn(api.IReturn), A: m.reg(), B: m.reg(), C: m.reg()}
	jump := max(0, min(len(m.Code)+m.Intn(7)-1, count))
	if m.Intn(20) == 0 {
		jump = m.Intn(count + 1)
	}
	switch i.Op {
	case api.IBool:
		i.B = m.Intn(2)
	case api.IConst:
		i.B = m.Intn(len(m.Consts))
	case api.IGetUp, api.ISetUp:
		return // by sources these come
	case api.IGetGlobal:
		i.B = m.Intn(m.numbers)
	case api.ISetGlobal:
		i.A = m.Intn(m.numbers)
	case api.IClosure:
		if len(m.Kids) == 0 {
			return
		}
		i.B = m.Intn(len(m.Kids))
	case api.IJump:
		i.A = jump
	case api.IJumpIf, api.IJumpNot:
		i.B = jump
	case api.IForPrep, api.IForLoop:
		i.A, i.B = m.Intn(m.Regs-3), jump
	case api.ICall, api.ITailCall:
		i.B, i.C = m.Intn(m.Regs-i.A), m.Intn(m.Regs-i.A+1)
	case api.IReturn:
		i.B = m.Intn(m.Regs - i.A + 1)
	}
	m.tell(i)
}

// Programs by hand are right, and some do more than fail.
func TestP15MadeByHand(t *testing.T) {
	r := rand.New(rand.NewSource(15))
	ops, lines := map[int]int{}, 0
	for range 300 {
		p := madeByHand(r)
		if !code.Right(p) {
			t.Fatalf("%v is not right", p)
		}
		for _, f := range p.Protos {
			for _, i := range f.Code {
				ops[i.Op]++
			}
		}
		m := open(t, p, api.MaxCells)
		m.Step(500)
		if slices.ContainsFunc(m.Lines(), func(s string) bool { return strings.HasPrefix(s, "true") }) {
			lines++
		}
	}
	if len(ops) < api.IReturn-2 || lines < 50 {
		t.Errorf("%d instructions, %d programs put out something", len(ops), lines)
	}
}
