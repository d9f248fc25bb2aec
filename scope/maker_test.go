package scope_test

import (
	"math/rand"
	"strings"
)

// maker writes a source and notes, by the chapter's words, from which place up to which place each variable is known, and in which function each name stands. It looks nothing up: that is the model's part.
type maker struct {
	r     *rand.Rand
	b     strings.Builder
	vars  []*madeVar
	names []*madeName
	fun   int
	funs  int
	left  int // behind so many tokens more nothing is put into anything
	wide  int // up to how many names a list of a local, or of parameters, has
	open  []*madeVar
	texts []string
}

// madeVar is a variable: where its first name stands, and from where up to where it is known.
type madeVar struct {
	text         string
	at, fun      int
	from, to     int
	number, held int
}

// madeName is a name; first: that of the variable that it makes.
type madeName struct {
	text    string
	at, fun int
	first   *madeVar
}

func newMaker(r *rand.Rand, left, wide int) *maker {
	return &maker{r: r, left: left, wide: wide, texts: []string{"a", "b", "c", "v0_0", "v1_0", "g", "ga", "_"}[:2+r.Intn(7)]}
}

func (m *maker) chance(n int) bool { return m.r.Intn(n) == 0 }

func (m *maker) tok(l ...string) {
	for _, s := range l {
		m.b.WriteString([]string{" ", " ", " ", "\n", " --a\n"}[m.r.Intn(5)])
		m.b.WriteString(s)
		m.left--
	}
}

func (m *maker) name() *madeName {
	s := m.texts[m.r.Intn(len(m.texts))]
	m.tok(s)
	n := &madeName{text: s, at: m.b.Len() - len(s), fun: m.fun}
	m.names = append(m.names, n)
	return n
}

// key is a name that is none of a variable.
func (m *maker) key() { m.tok(m.texts[m.r.Intn(len(m.texts))]) }

// namesOf are the first names of variables that are not known yet.
func (m *maker) namesOf() []*madeName {
	l := []*madeName{m.name()}
	for range m.r.Intn(m.wide) {
		m.tok(",")
		l = append(l, m.name())
	}
	return l
}

// learn: from here on, up to the end of the block that is open, variables are known.
func (m *maker) learn(l ...*madeName) {
	for _, n := range l {
		n.first = &madeVar{text: n.text, at: n.at, fun: n.fun, from: m.b.Len(), to: -1}
		m.vars = append(m.vars, n.first)
		m.open = append(m.open, n.first)
	}
}

// within writes a block, in which variables are known from its beginning on.
func (m *maker) within(names []*madeName) {
	outer := m.open
	m.open = nil
	m.learn(names...)
	m.block()
	for _, v := range m.open {
		v.to = m.b.Len()
	}
	m.open = outer
}

func (m *maker) source() string {
	m.within(nil)
	return m.b.String()
}

func (m *maker) block() {
	for range m.r.Intn(4) {
		m.statement()
		if m.chance(3) {
			m.tok(";")
		}
	}
	if m.chance(5) {
		m.tok("return")
		m.list()
	}
}

func (m *maker) statement() {
	n := m.r.Intn(11)
	if m.left <= 0 {
		n = m.r.Intn(3)
	}
	switch n {
	case 0:
		m.tok("local")
		m.learn(m.namesOf()...)
	case 1:
		m.tok("break")
	case 2, 3:
		m.tok("local")
		l := m.namesOf()
		m.tok("=")
		m.list()
		m.learn(l...)
	case 4:
		m.named()
	case 5:
		m.choice()
	case 6:
		m.tok("while")
		m.expr()
		m.doBlock(nil)
	case 7:
		m.count()
	case 8:
		m.doBlock(nil)
	case 9:
		m.suffixed("(")
	case 10:
		m.assign()
	}
}

func (m *maker) named() {
	local := m.chance(2)
	if local {
		m.tok("local")
	}
	m.tok("function")
	n := m.name()
	if local {
		m.learn(n)
	}
	m.body()
}

// body is a function behind its word, and perhaps its name.
func (m *maker) body() {
	around := m.fun
	m.funs++
	m.fun = m.funs
	m.tok("(")
	var l []*madeName
	if m.chance(2) {
		l = m.namesOf()
	}
	m.tok(")")
	m.within(l)
	m.tok("end")
	m.fun = around
}

func (m *maker) choice() {
	m.tok("if")
	m.expr()
	m.tok("then")
	m.within(nil)
	for m.chance(2) {
		m.tok("elseif")
		m.expr()
		m.tok("then")
		m.within(nil)
	}
	if m.chance(2) {
		m.tok("else")
		m.within(nil)
	}
	m.tok("end")
}

func (m *maker) count() {
	m.tok("for")
	n := m.name()
	m.tok("=")
	m.expr()
	m.tok(",")
	m.expr()
	if m.chance(2) {
		m.tok(",")
		m.expr()
	}
	m.doBlock([]*madeName{n})
}

func (m *maker) doBlock(names []*madeName) {
	m.tok("do")
	m.within(names)
	m.tok("end")
}

func (m *maker) assign() {
	for {
		if m.chance(2) {
			m.name()
		} else {
			m.suffixed([]string{".", "["}[m.r.Intn(2)])
		}
		if m.chance(2) {
			break
		}
		m.tok(",")
	}
	m.tok("=")
	m.list()
}

// suffixed has a last suffix that begins with that sign.
func (m *maker) suffixed(last string) {
	m.name()
	for m.chance(3) {
		m.suffix([]string{".", "[", "("}[m.r.Intn(3)])
	}
	m.suffix(last)
}

func (m *maker) suffix(sign string) {
	m.tok(sign)
	switch sign {
	case ".":
		m.key()
	case "[":
		m.expr()
		m.tok("]")
	case "(":
		if m.chance(2) {
			m.list()
		}
		m.tok(")")
	}
}

func (m *maker) list() {
	m.expr()
	for m.chance(3) {
		m.tok(",")
		m.expr()
	}
}

func (m *maker) expr() {
	n := m.r.Intn(9)
	if m.left <= 0 {
		n = m.r.Intn(3)
	}
	switch n {
	case 0, 1:
		m.name()
	case 2:
		m.tok([]string{"nil", "true", "1", `"a"`}[m.r.Intn(4)])
	case 3:
		m.tok("function")
		m.body()
	case 4:
		m.table()
	case 5:
		m.tok("(")
		m.expr()
		m.tok([]string{"+", "..", "or", "<", "*"}[m.r.Intn(5)])
		m.expr()
		m.tok(")")
	case 6:
		m.tok([]string{"not", "-", "#"}[m.r.Intn(3)])
		m.expr()
	case 7, 8:
		m.suffixed([]string{".", "[", "("}[m.r.Intn(3)])
	}
}

func (m *maker) table() {
	m.tok("{")
	for m.chance(2) {
		switch m.r.Intn(3) {
		case 0:
			m.expr()
		case 1:
			m.key()
			m.tok("=")
			m.expr()
		case 2:
			m.tok("[")
			m.expr()
			m.tok("]", "=")
			m.expr()
		}
		m.tok(",")
	}
	m.tok("}")
}
