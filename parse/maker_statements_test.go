package parse_test

import "heirloom/api"

// block tells -1 as At, if it has no tokens.
func (m *maker) block(level int) api.Node {
	first := m.begin(level)
	*first = -1
	n := api.Node{Kind: api.NBlock}
	count := m.some()
	if m.deep && !m.full(level) {
		count++
	}
	for range count {
		for m.chance(4) {
			m.tok(";")
		}
		n.L = append(n.L, m.statement(level))
	}
	for m.chance(6) {
		m.tok(";")
	}
	if m.chance(4) {
		n.L = append(n.L, m.returned(level))
	}
	n.At = *first
	return n
}

func (m *maker) returned(level int) api.Node {
	n := api.Node{Kind: api.NReturn, At: m.tok("return")}
	if m.has(level) {
		n.L = m.list(level + 1)
	}
	if m.chance(2) {
		m.tok(";")
	}
	return n
}

func (m *maker) statement(level int) api.Node {
	if m.full(level) || !m.deep && m.chance(8) {
		if m.chance(2) {
			return api.Node{Kind: api.NBreak, At: m.tok("break")}
		}
		n := api.Node{Kind: api.NLocal, At: m.tok("local"), L: m.names()}
		n.Count = len(n.L)
		return n
	}
	switch m.r.Intn(8) {
	case 0:
		return m.local(level)
	case 1:
		return m.function(level)
	case 2:
		return m.choice(level)
	case 3:
		at := m.tok("while")
		condition := m.expr(level + 1)
		return api.Node{Kind: api.NWhile, At: at, L: []api.Node{condition, m.doBlock(level)}}
	case 4:
		return m.count(level)
	case 5:
		at := m.ahead()
		b := m.doBlock(level)
		return api.Node{Kind: api.NGroup, At: *at, L: []api.Node{b}}
	case 6:
		return m.call(level)
	}
	return m.assign(level)
}

func (m *maker) local(level int) api.Node {
	at := m.tok("local")
	n := api.Node{Kind: api.NLocal, At: at, L: m.names()}
	n.Count = len(n.L)
	if m.has(level) {
		m.tok("=")
		n.L = append(n.L, m.list(level+1)...)
	}
	return n
}

func (m *maker) function(level int) api.Node {
	n := api.Node{Kind: api.NAssign, Count: 1}
	first := m.ahead()
	if m.chance(2) {
		n = api.Node{Kind: api.NLocalFunc}
		m.tok("local")
	}
	m.begin(level + 1)
	at := m.tok("function")
	name := m.name()
	n.At, n.L = *first, []api.Node{name, m.body(at, level+1)}
	return n
}

func (m *maker) choice(level int) api.Node {
	n := api.Node{Kind: api.NIf, At: m.tok("if")}
	for i := range 1 + m.some() {
		if i > 0 {
			n.L = m.ending(n.L, "elseif")
		}
		n.L = append(n.L, m.expr(level+1))
		m.tok("then")
		n.L = append(n.L, m.block(level+1))
	}
	if m.chance(2) {
		n.L = m.ending(n.L, "else")
		n.L = append(n.L, m.block(level+1))
	}
	n.L = m.ending(n.L, "end")
	return n
}

// ending writes the word that ends the last block of a list.
func (m *maker) ending(l []api.Node, word string) []api.Node {
	at := m.tok(word)
	l[len(l)-1] = ended(l[len(l)-1], at)
	return l
}

func (m *maker) doBlock(level int) api.Node {
	m.tok("do")
	return m.ending([]api.Node{m.block(level + 1)}, "end")[0]
}

func (m *maker) count(level int) api.Node {
	n := api.Node{Kind: api.NFor, At: m.tok("for")}
	n.L = append(n.L, m.name())
	for i := range 2 + m.r.Intn(2) {
		m.tok([]string{"=", ",", ","}[i])
		n.L = append(n.L, m.expr(level+1))
	}
	n.L = append(n.L, m.doBlock(level))
	return n
}

// first is whether the expression with which a statement begins has ( as its first token; a ; keeps it from what stands ahead then.
func (m *maker) first() bool {
	group := m.chance(4)
	if group {
		m.tok(";")
	}
	return group
}

func (m *maker) call(level int) api.Node {
	group := m.first()
	at := m.begin(level + 1)
	n := m.suffixed(level+1, group, m.suffixes(m.r.Intn(3))+"(")
	return api.Node{Kind: api.NDo, At: *at, L: []api.Node{n}}
}

func (m *maker) assign(level int) api.Node {
	n := api.Node{Kind: api.NAssign, Count: 1 + m.some()}
	group := m.first()
	first := m.ahead()
	for i := range n.Count {
		if i > 0 {
			m.tok(",")
			group = m.chance(4)
		}
		suffixes := ""
		if group || m.chance(2) {
			suffixes = m.suffixes(m.r.Intn(3)) + []string{".", "["}[m.r.Intn(2)]
		}
		m.begin(level + 1)
		n.L = append(n.L, m.suffixed(level+1, group, suffixes))
	}
	n.At = *first
	m.tok("=")
	n.L = append(n.L, m.list(level+1)...)
	return n
}
