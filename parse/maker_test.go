package parse_test

import (
	"math"
	"math/rand"
	"strings"

	"heirloom/api"
	"heirloom/num"
)

// maker makes a source and, beside it, its tree and the levels of its expressions and blocks, by the chapter's words.
type maker struct {
	r       *rand.Rand
	b       strings.Builder
	waiting []*int // to be told the next token's place
	marks   []mark
	most    int  // from this level on nothing is put into anything
	left    int  // behind so many tokens more, too
	deep    bool // whatever may have something in it has
}

// mark is where an expression or a block begins, and on which level.
type mark struct {
	at    *int
	level int
}

func newMaker(r *rand.Rand, most int) *maker { return &maker{r: r, most: most, left: 300} }

// newDeepMaker makes sources whose levels are about as high as they may be.
func newDeepMaker(r *rand.Rand) *maker {
	return &maker{r: r, most: 36 + r.Intn(8), left: 600, deep: true}
}

func (m *maker) full(level int) bool { return level >= m.most || m.left <= 0 }

// source is the source and its tree.
func (m *maker) source() (string, api.Node) {
	n := m.block(1)
	m.gap()
	if m.chance(5) {
		m.b.WriteString("-- the end")
	}
	m.place()
	return m.b.String(), ended(n, m.b.Len())
}

// tooDeep is the place of the first mark above MaxNest, or -1.
func (m *maker) tooDeep() int {
	at := -1
	for _, k := range m.marks {
		if k.level > 40 && (at < 0 || *k.at < at) {
			at = *k.at
		}
	}
	return at
}

func (m *maker) place() {
	for _, at := range m.waiting {
		*at = m.b.Len()
	}
	m.waiting = nil
}

func (m *maker) gap() {
	if m.b.Len() == 0 && m.r.Intn(2) == 0 {
		return
	}
	m.b.WriteString([]string{" ", " ", " ", " ", "\n", "\t", "\r\n", "  ", " --\n", " -- end )\n"}[m.r.Intn(10)])
}

// tok writes a token and tells its place.
func (m *maker) tok(s string) int {
	m.gap()
	m.place()
	m.left--
	at := m.b.Len()
	m.b.WriteString(s)
	return at
}

// ahead is where the next token will stand.
func (m *maker) ahead() *int {
	at := new(int)
	m.waiting = append(m.waiting, at)
	return at
}

func (m *maker) begin(level int) *int {
	at := m.ahead()
	m.marks = append(m.marks, mark{at, level})
	return at
}

func (m *maker) chance(n int) bool { return m.r.Intn(n) == 0 }

func (m *maker) some() int { return m.r.Intn(3) }

// has tells whether something on that level that may have parts has some.
func (m *maker) has(level int) bool { return !m.full(level) && (m.deep || m.chance(2)) }

func (m *maker) name() api.Node {
	s := []string{"a", "b", "c", "x_1", "_", "long_name"}[m.r.Intn(6)]
	return api.Node{Kind: api.NName, Text: s, At: m.tok(s)}
}

func (m *maker) names() []api.Node {
	l := []api.Node{m.name()}
	for range m.some() {
		m.tok(",")
		l = append(l, m.name())
	}
	return l
}

func (m *maker) list(level int) []api.Node {
	l := []api.Node{m.expr(level)}
	for range m.some() {
		m.tok(",")
		l = append(l, m.expr(level))
	}
	return l
}

// expr is operands with signs of two between them. Which part is on which level, and what the tree is, is found by parting it at the sign that binds last.
func (m *maker) expr(level int) api.Node {
	var signs []string
	if !m.full(level) && m.chance(3) {
		for range 1 + m.r.Intn(4) {
			signs = append(signs, signsOfTwo()[m.r.Intn(15)])
		}
	}
	levels := make([]int, len(signs)+1)
	setLevels(signs, levels, level)
	var operands []api.Node
	for i, l := range levels {
		if i > 0 {
			m.tok(signs[i-1])
		}
		m.begin(l)
		operands = append(operands, m.operand(l))
	}
	return joined(signs, operands)
}

func setLevels(signs []string, levels []int, level int) {
	if len(signs) == 0 {
		levels[0] = level
		return
	}
	at := lastBound(signs)
	setLevels(signs[:at], levels[:at+1], level)
	setLevels(signs[at+1:], levels[at+1:], level+1)
}

func joined(signs []string, operands []api.Node) api.Node {
	if len(signs) == 0 {
		return operands[0]
	}
	at := lastBound(signs)
	left, right := joined(signs[:at], operands[:at+1]), joined(signs[at+1:], operands[at+1:])
	return api.Node{Kind: api.NBin, Text: signs[at], At: left.At, L: []api.Node{left, right}}
}

func (m *maker) operand(level int) api.Node {
	if m.full(level) || !m.deep && m.chance(8) {
		return m.leaf()
	}
	switch m.r.Intn(7) {
	case 0:
		return m.suffixed(level, m.chance(3), m.suffixes(m.r.Intn(3)))
	case 1:
		at := m.tok("function")
		return m.body(at, level)
	case 2:
		return m.table(level)
	case 3:
		s := signsOfOne()[m.r.Intn(3)]
		at := m.tok(s)
		m.begin(level + 1)
		return api.Node{Kind: api.NUn, Text: s, At: at, L: []api.Node{m.operand(level + 1)}}
	case 4:
		return m.grouped(level)
	}
	return m.suffixed(level, m.chance(3), m.suffixes(m.r.Intn(3)))
}

func (m *maker) grouped(level int) api.Node {
	m.tok("(")
	n := m.expr(level + 1)
	m.tok(")")
	return n
}

func (m *maker) leaf() api.Node {
	switch m.r.Intn(7) {
	case 0:
		return api.Node{Kind: api.NNil, At: m.tok("nil")}
	case 1:
		return api.Node{Kind: api.NTrue, At: m.tok("true")}
	case 2:
		return api.Node{Kind: api.NFalse, At: m.tok("false")}
	case 3:
		return api.Node{Kind: api.NNumber, V: num.Int(17), At: m.tok("17")}
	case 4:
		return api.Node{Kind: api.NNumber, V: api.Value{T: api.TFloat, N: int64(math.Float64bits(2.5))}, At: m.tok("2.5")}
	case 5:
		return api.Node{Kind: api.NText, Text: "end\n", At: m.tok(`"end\x0a"`)}
	}
	return m.name()
}

// suffixes are the signs with which some suffixes begin.
func (m *maker) suffixes(n int) string {
	var b strings.Builder
	for range n {
		b.WriteByte(".[("[m.r.Intn(3)])
	}
	return b.String()
}

func (m *maker) suffixed(level int, group bool, suffixes string) api.Node {
	first := m.ahead()
	var n api.Node
	if group {
		n = m.grouped(level)
	} else {
		n = m.name()
	}
	for i := range len(suffixes) {
		n = m.suffix(n, *first, level, suffixes[i])
	}
	return n
}

func (m *maker) suffix(n api.Node, first, level int, form byte) api.Node {
	out := api.Node{Kind: api.NIndex, At: first}
	m.tok(string(form))
	switch form {
	case '.':
		key := m.name()
		key.Kind = api.NText
		out.L = []api.Node{n, key}
	case '[':
		key := m.expr(level + 1)
		m.tok("]")
		out.L = []api.Node{n, key}
	case '(':
		out.Kind, out.L = api.NCall, []api.Node{n}
		if m.has(level) {
			out.L = append(out.L, m.list(level+1)...)
		}
		m.tok(")")
	}
	return out
}

func (m *maker) table(level int) api.Node {
	n := api.Node{Kind: api.NTable, At: m.tok("{")}
	if m.has(level) {
		n.L = m.items(level + 1)
	}
	m.tok("}")
	return n
}

func (m *maker) items(level int) []api.Node {
	l := []api.Node{m.item(level)}
	for range m.some() {
		m.tok(",")
		l = append(l, m.item(level))
	}
	if m.chance(3) {
		m.tok(",")
	}
	return l
}

func (m *maker) item(level int) api.Node {
	first := m.ahead()
	switch m.r.Intn(3) {
	case 0:
		v := m.expr(level)
		return api.Node{Kind: api.NItem, At: *first, L: []api.Node{v}}
	case 1:
		key := m.name()
		key.Kind = api.NText
		m.tok("=")
		return api.Node{Kind: api.NPair, At: *first, L: []api.Node{key, m.expr(level)}}
	}
	m.tok("[")
	key := m.expr(level)
	m.tok("]")
	m.tok("=")
	return api.Node{Kind: api.NPair, At: *first, L: []api.Node{key, m.expr(level)}}
}

func (m *maker) body(at, level int) api.Node {
	n := api.Node{Kind: api.NFunc, At: at}
	m.tok("(")
	if m.chance(2) {
		n.L = m.names()
	}
	m.tok(")")
	n.L = append(n.L, m.block(level+1))
	n.L = m.ending(n.L, "end")
	return n
}

// ended is a block whose place was not known as it was made: an empty one's is that of what comes behind it.
func ended(b api.Node, at int) api.Node {
	if b.At < 0 {
		b.At = at
	}
	return b
}
