package code_test

import (
	"math/rand"
	"strings"
)

// maker writes sources with all kinds of statements and expressions.
type maker struct {
	r     *rand.Rand
	b     strings.Builder
	left  int // behind so many tokens more nothing is put into anything
	loops int // how many loops of this function are open
	stray int // one break of so many may stand outside all loops; 0: none
	texts []string
}

func newMaker(r *rand.Rand, left, stray int) *maker {
	return &maker{r: r, left: left, stray: stray, texts: []string{"a", "b", "c", "d", "e"}[:1+r.Intn(5)]}
}

func (m *maker) chance(n int) bool { return m.r.Intn(n) == 0 }

func (m *maker) tok(l ...string) {
	for _, s := range l {
		m.b.WriteString(" " + s)
		m.left--
	}
}

func (m *maker) oneOf(l ...string) { m.tok(l[m.r.Intn(len(l))]) }

func (m *maker) name() { m.oneOf(m.texts...) }

func (m *maker) names() {
	m.name()
	for m.chance(2) {
		m.tok(",")
		m.name()
	}
}

func (m *maker) source() string {
	m.block()
	return m.b.String()
}

func (m *maker) block() {
	for range m.r.Intn(4) {
		m.statement()
		m.tok(";")
	}
	if m.chance(4) {
		m.tok("return")
		if m.chance(2) {
			m.list()
		} else if m.chance(2) {
			m.suffixed("(")
		}
	}
}

func (m *maker) statement() {
	n := m.r.Intn(13)
	if m.left <= 0 {
		n = m.r.Intn(4)
	}
	switch n {
	case 0:
		m.tok("local")
		m.names()
	case 1, 2:
		m.leave()
	case 3, 4, 5:
		m.tok("local")
		m.names()
		m.tok("=")
		m.list()
	case 6:
		m.oneOf("function", "local function")
		m.name()
		m.body()
	case 7:
		m.choice()
	case 8:
		m.tok("while")
		m.expr()
		m.loop()
	case 9:
		m.count()
	case 10:
		m.tok("do")
		m.block()
		m.tok("end")
	case 11:
		m.suffixed("(")
	case 12:
		m.assign()
	}
}

func (m *maker) leave() {
	if m.loops > 0 || m.stray > 0 && m.chance(m.stray) {
		m.tok("break")
	}
}

func (m *maker) loop() {
	m.loops++
	m.tok("do")
	m.block()
	m.tok("end")
	m.loops--
}

func (m *maker) count() {
	m.tok("for")
	m.name()
	m.tok("=")
	m.expr()
	m.tok(",")
	m.expr()
	if m.chance(2) {
		m.tok(",")
		m.expr()
	}
	m.loop()
}

func (m *maker) choice() {
	m.tok("if")
	m.expr()
	m.tok("then")
	m.block()
	for m.chance(2) {
		m.tok("elseif")
		m.expr()
		m.tok("then")
		m.block()
	}
	if m.chance(2) {
		m.tok("else")
		m.block()
	}
	m.tok("end")
}

func (m *maker) body() {
	around := m.loops
	m.loops = 0
	m.tok("(")
	if m.chance(2) {
		m.names()
	}
	m.tok(")")
	m.block()
	m.tok("end")
	m.loops = around
}

func (m *maker) assign() {
	for {
		if m.chance(2) {
			m.name()
		} else {
			m.suffixed([]string{".", "["}[m.r.Intn(2)])
		}
		if m.chance(2) {
			break
		}
		m.tok(",")
	}
	m.tok("=")
	m.list()
}

// suffixed has a last suffix that begins with that sign.
func (m *maker) suffixed(last string) {
	m.name()
	for m.chance(3) {
		m.suffix([]string{".", "[", "("}[m.r.Intn(3)])
	}
	m.suffix(last)
}

func (m *maker) suffix(sign string) {
	m.tok(sign)
	switch sign {
	case ".":
		m.name()
	case "[":
		m.expr()
		m.tok("]")
	case "(":
		if m.chance(2) {
			m.list()
		}
		m.tok(")")
	}
}

func (m *maker) list() {
	m.expr()
	for m.chance(2) {
		m.tok(",")
		m.expr()
	}
	if m.chance(4) {
		m.tok(",")
		m.suffixed("(")
	}
}

func (m *maker) number() {
	m.oneOf("0", "1", "2", "1.0", "0.5", "9223372036854775807", "0f8000000000000000")
}

func (m *maker) expr() {
	n := m.r.Intn(12)
	if m.left <= 0 {
		n = m.r.Intn(4)
	}
	switch n {
	case 0, 1:
		m.name()
	case 2:
		m.oneOf("nil", "true", "false", `"a"`, `""`, `"b"`)
	case 3:
		m.number()
	case 4:
		m.tok("function")
		m.body()
	case 5:
		m.table()
	case 6, 7:
		m.tok("(")
		m.expr()
		m.oneOf("+", "-", "*", "/", "//", "%", "..", "==", "~=", "<", "<=", ">", ">=", "and", "or")
		m.expr()
		m.tok(")")
	case 8:
		m.oneOf("not", "-", "#")
		m.expr()
	case 9, 10:
		m.suffixed([]string{".", "[", "("}[m.r.Intn(3)])
	case 11:
		m.reckoned()
	}
}

// reckoned is an expression of numbers alone.
func (m *maker) reckoned() {
	m.number()
	for m.chance(2) {
		m.oneOf("+", "-", "*", "/", "//", "%")
		m.number()
	}
}

func (m *maker) table() {
	m.tok("{")
	for m.chance(2) {
		switch m.r.Intn(3) {
		case 0:
			m.expr()
		case 1:
			m.name()
			m.tok("=")
			m.expr()
		case 2:
			m.tok("[")
			m.expr()
			m.tok("]", "=")
			m.expr()
		}
		m.tok(",")
	}
	m.tok("}")
}
